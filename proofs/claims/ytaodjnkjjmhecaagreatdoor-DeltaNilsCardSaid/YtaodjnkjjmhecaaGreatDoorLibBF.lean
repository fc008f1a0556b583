/- Contracts and plain words that the laws' proofs stand on. -/
import Derived.Test.YtaodjnkjjmhecaaGreatDoorShort
import Derived.Test.YtaodjnkjjmhecaaGreatDoorLibBB
namespace Go.Proofs.YtaodjnkjjmhecaaGreatDoor
open Go.RowKit
set_option linter.unusedVariables false
def keyB (nm dm pa : List UInt8) : Bool := !(nm == []) && (partB nm [59, 61] nm.length 256 && (canonB dm && (decide (pa.getD 0 0 = 47) && decide (pa.length ≤ 256))))
def cooB (va : List UInt8) (pe : Bool) (ex cr ac : Int) : Bool := partB va [59] va.length 1024 && ((decide (-1099511627776 ≤ ex) && decide (ex ≤ 1099511627776)) && ((decide (0 ≤ cr) && decide (cr ≤ 1099511627776)) && ((decide (0 ≤ ac) && decide (ac ≤ 1099511627776)) && (pe || ex == 1099511627776))))
set_option maxHeartbeats 2000000 in
set_option maxRecDepth 100000 in
theorem rightKeyC (nm dm pa : List UInt8) (w : World) (l1 : nm.length ≤ 100000) (l2 : dm.length ≤ 100000) (l3 : pa.length ≤ 100000) (hT : PTab Tryz.prog w) :
    Calls Tryz.prog 181 #[.agg #[.string (str nm), .string (str dm), .string (str pa)]] w fun e w' => e = .returned (.bool (keyB nm dm pa)) ∧ Below w.heap.size w w' := by
  have hb1 := below_alloc w (.cells #[.string (str nm), .string (str dm), .string (str pa)] 39)
  have o1 := ObjAt.new w #[.string (str nm), .string (str dm), .string (str pa)] 39
  have hb2 := hb1.alloc hb1.size (.cells #[.int .u8 59, .int .u8 61] 5)
  have o2 := o1.below (below_alloc _ (.cells #[.int .u8 59, .int .u8 61] 5)) o1.lt
  have hT2 := hT.below hb2
  have hr : Reads ((w.alloc (.cells #[.string (str nm), .string (str dm), .string (str pa)] 39)).alloc (.cells #[.int .u8 59, .int .u8 61] 5)) (some ⟨w.heap.size + 1, 0, none⟩) ([59, 61].map (fun c : UInt8 => Value.int .u8 (c.toNat : Int))) := by
    have h := reads_new (w.alloc (.cells #[.string (str nm), .string (str dm), .string (str pa)] 39)) [.int .u8 59, .int .u8 61] 5
    have s1 : (w.alloc (.cells #[.string (str nm), .string (str dm), .string (str pa)] 39)).heap.size = w.heap.size + 1 := by simp
    rw [s1] at h
    exact h
  have HP := partC nm [59, 61] nm.length 2 (w.heap.size + 1) 256 _ rfl l1 rfl (by omega) hr
  have HC := canonicalC dm dm.length _ rfl l2 hT2
  have HH := fun w => headSlashC pa w
  have hk := str_toList
  obtain ⟨m3, hm3⟩ : ∃ m, pa.length = m := ⟨_, rfl⟩
  have z3 : (str pa).size = m3 := by rw [str_size, hm3]
  clear hr hT2 hT
  unfold keyB
  obtain ⟨b1, hb⟩ : ∃ b, (nm == []) = b := ⟨_, rfl⟩
  obtain ⟨b2, h2⟩ : ∃ b, partB nm [59, 61] nm.length 256 = b := ⟨_, rfl⟩
  obtain ⟨b3, h3⟩ : ∃ b, canonB dm = b := ⟨_, rfl⟩
  obtain ⟨b4, h4⟩ : ∃ b, decide (pa.getD 0 0 = 47) = b := ⟨_, rfl⟩
  obtain ⟨b5, h5⟩ : ∃ b, decide (pa.length ≤ 256) = b := ⟨_, rfl⟩
  rw [hb, h2, h3, h4, h5]
  rw [h2] at HP
  rw [h3] at HC
  simp only [h4] at HH
  rw [hm3] at h5
  clear h2 h3 h4 hm3 l1 l2 l3
  have c2 := o2.cell 2 rfl
  have u5 : b5 = decide ((m3 : Int) ≤ 256) := by rw [← h5]; exact decide_eq_decide.2 (by omega)
  rw [u5]
  clear u5 h5
  cases b1 with
  | true =>
    go_enter Tryz.func181, Tryz.ntmps181
    go_wp2_with (first
      | (go_at_call 210; (with_reducible refine HP.mono ?_); rintro e w1 ⟨rfl, rfl⟩)
      | (go_at_call 211; (with_reducible refine HC.mono ?_); rintro e w4 ⟨rfl, hx⟩; have o3 := o2.below hx o2.lt; have hb3 := hb2.trans (hx.mono hb2.size); have d2 := o3.cell 2 rfl; clear hx)
      | (go_at_call 212; (with_reducible refine (HH _).mono ?_); rintro e w5 ⟨rfl, rfl⟩))
    go_ret
    exact ⟨rfl, by first | exact hb3 | exact hb2 | exact hb1⟩
  | false =>
    cases b2 with
    | false =>
      go_enter Tryz.func181, Tryz.ntmps181
      go_wp2_with (first
        | (go_at_call 210; (with_reducible refine HP.mono ?_); rintro e w1 ⟨rfl, rfl⟩)
        | (go_at_call 211; (with_reducible refine HC.mono ?_); rintro e w4 ⟨rfl, hx⟩; have o3 := o2.below hx o2.lt; have hb3 := hb2.trans (hx.mono hb2.size); have d2 := o3.cell 2 rfl; clear hx)
        | (go_at_call 212; (with_reducible refine (HH _).mono ?_); rintro e w5 ⟨rfl, rfl⟩))
      go_ret
      exact ⟨rfl, by first | exact hb3 | exact hb2 | exact hb1⟩
    | true =>
      cases b3 with
      | false =>
        go_enter Tryz.func181, Tryz.ntmps181
        go_wp2_with (first
          | (go_at_call 210; (with_reducible refine HP.mono ?_); rintro e w1 ⟨rfl, rfl⟩)
          | (go_at_call 211; (with_reducible refine HC.mono ?_); rintro e w4 ⟨rfl, hx⟩; have o3 := o2.below hx o2.lt; have hb3 := hb2.trans (hx.mono hb2.size); have d2 := o3.cell 2 rfl; clear hx)
          | (go_at_call 212; (with_reducible refine (HH _).mono ?_); rintro e w5 ⟨rfl, rfl⟩))
        go_ret
        exact ⟨rfl, by first | exact hb3 | exact hb2 | exact hb1⟩
      | true =>
        cases b4 with
        | false =>
          go_enter Tryz.func181, Tryz.ntmps181
          go_wp2_with (first
            | (go_at_call 210; (with_reducible refine HP.mono ?_); rintro e w1 ⟨rfl, rfl⟩)
            | (go_at_call 211; (with_reducible refine HC.mono ?_); rintro e w4 ⟨rfl, hx⟩; have o3 := o2.below hx o2.lt; have hb3 := hb2.trans (hx.mono hb2.size); have d2 := o3.cell 2 rfl; clear hx)
            | (go_at_call 212; (with_reducible refine (HH _).mono ?_); rintro e w5 ⟨rfl, rfl⟩))
          go_ret
          exact ⟨rfl, by first | exact hb3 | exact hb2 | exact hb1⟩
        | true =>
          go_enter Tryz.func181, Tryz.ntmps181
          go_wp2_with (first
            | (go_at_call 210; (with_reducible refine HP.mono ?_); rintro e w1 ⟨rfl, rfl⟩)
            | (go_at_call 211; (with_reducible refine HC.mono ?_); rintro e w4 ⟨rfl, hx⟩; have o3 := o2.below hx o2.lt; have hb3 := hb2.trans (hx.mono hb2.size); have d2 := o3.cell 2 rfl; clear hx)
            | (go_at_call 212; (with_reducible refine (HH _).mono ?_); rintro e w5 ⟨rfl, rfl⟩))
          go_ret
          exact ⟨rfl, by first | exact hb3 | exact hb2 | exact hb1⟩
set_option maxHeartbeats 2000000 in
set_option maxRecDepth 100000 in
theorem rightCookieC (va : List UInt8) (ho se ht pe : Bool) (ex cr ac : Int) (w : World) (l1 : va.length ≤ 100000) :
    Calls Tryz.prog 182 #[.agg #[.string (str va), .bool ho, .bool se, .bool ht, .bool pe, .int .i64 ex, .int .i64 cr, .int .i64 ac]] w fun e w' => e = .returned (.bool (cooB va pe ex cr ac)) ∧ Below w.heap.size w w' := by
  have hb1 := below_alloc w (.cells #[.string (str va), .bool ho, .bool se, .bool ht, .bool pe, .int .i64 ex, .int .i64 cr, .int .i64 ac] 41)
  have hb2 := hb1.alloc hb1.size (.cells #[.int .u8 59] 5)
  have o1 := ObjAt.new w #[.string (str va), .bool ho, .bool se, .bool ht, .bool pe, .int .i64 ex, .int .i64 cr, .int .i64 ac] 41
  have o2 := o1.below (below_alloc _ (.cells #[.int .u8 59] 5)) o1.lt
  have hr : Reads ((w.alloc (.cells #[.string (str va), .bool ho, .bool se, .bool ht, .bool pe, .int .i64 ex, .int .i64 cr, .int .i64 ac] 41)).alloc (.cells #[.int .u8 59] 5)) (some ⟨w.heap.size + 1, 0, none⟩) ([59].map (fun c : UInt8 => Value.int .u8 (c.toNat : Int))) := by
    have h := reads_new (w.alloc (.cells #[.string (str va), .bool ho, .bool se, .bool ht, .bool pe, .int .i64 ex, .int .i64 cr, .int .i64 ac] 41)) [.int .u8 59] 5
    have s1 : (w.alloc (.cells #[.string (str va), .bool ho, .bool se, .bool ht, .bool pe, .int .i64 ex, .int .i64 cr, .int .i64 ac] 41)).heap.size = w.heap.size + 1 := by simp
    rw [s1] at h
    exact h
  have HP := partC va [59] va.length 1 (w.heap.size + 1) 1024 _ rfl l1 rfl (by omega) hr
  have H1 := fun w => withinC ex (-1099511627776) 1099511627776 w
  have H2 := fun w => withinC cr 0 1099511627776 w
  have H3 := fun w => withinC ac 0 1099511627776 w
  clear hr
  unfold cooB
  obtain ⟨b1, h1⟩ : ∃ b, partB va [59] va.length 1024 = b := ⟨_, rfl⟩
  obtain ⟨b2, h2⟩ : ∃ b, (decide (-1099511627776 ≤ ex) && decide (ex ≤ 1099511627776)) = b := ⟨_, rfl⟩
  obtain ⟨b3, h3⟩ : ∃ b, (decide (0 ≤ cr) && decide (cr ≤ 1099511627776)) = b := ⟨_, rfl⟩
  obtain ⟨b4, h4⟩ : ∃ b, (decide (0 ≤ ac) && decide (ac ≤ 1099511627776)) = b := ⟨_, rfl⟩
  obtain ⟨b6, h6⟩ : ∃ b, (ex == 1099511627776) = b := ⟨_, rfl⟩
  rw [h1, h2, h3, h4, h6]
  rw [h1] at HP
  simp only [h2] at H1
  simp only [h3] at H2
  simp only [h4] at H3
  clear h1 h2 h3 h4 l1
  have c0 := o2.cell 0 rfl; have c1 := o2.cell 1 rfl; have c2 := o2.cell 2 rfl; have c3 := o2.cell 3 rfl; have c4 := o2.cell 4 rfl; have c5 := o2.cell 5 rfl; have c6 := o2.cell 6 rfl; have c7 := o2.cell 7 rfl; clear o1 o2
  cases b1 with
  | false =>
    go_enter Tryz.func182, Tryz.ntmps182
    go_wp2_with (first
      | (go_at_call 210; (with_reducible refine HP.mono ?_); rintro e w1 ⟨rfl, rfl⟩)
      | (go_at_call 213; (with_reducible refine (H1 _).mono ?_); rintro e w2 ⟨rfl, rfl⟩)
      | (go_at_call 213; (with_reducible refine (H2 _).mono ?_); rintro e w2 ⟨rfl, rfl⟩)
      | (go_at_call 213; (with_reducible refine (H3 _).mono ?_); rintro e w2 ⟨rfl, rfl⟩))
    go_ret
    exact ⟨rfl, hb2⟩
  | true =>
    cases b2 with
    | false =>
      go_enter Tryz.func182, Tryz.ntmps182
      go_wp2_with (first
        | (go_at_call 210; (with_reducible refine HP.mono ?_); rintro e w1 ⟨rfl, rfl⟩)
        | (go_at_call 213; (with_reducible refine (H1 _).mono ?_); rintro e w2 ⟨rfl, rfl⟩)
        | (go_at_call 213; (with_reducible refine (H2 _).mono ?_); rintro e w2 ⟨rfl, rfl⟩)
        | (go_at_call 213; (with_reducible refine (H3 _).mono ?_); rintro e w2 ⟨rfl, rfl⟩))
      go_ret
      exact ⟨rfl, hb2⟩
    | true =>
      cases b3 with
      | false =>
        go_enter Tryz.func182, Tryz.ntmps182
        go_wp2_with (first
          | (go_at_call 210; (with_reducible refine HP.mono ?_); rintro e w1 ⟨rfl, rfl⟩)
          | (go_at_call 213; (with_reducible refine (H1 _).mono ?_); rintro e w2 ⟨rfl, rfl⟩)
          | (go_at_call 213; (with_reducible refine (H2 _).mono ?_); rintro e w2 ⟨rfl, rfl⟩)
          | (go_at_call 213; (with_reducible refine (H3 _).mono ?_); rintro e w2 ⟨rfl, rfl⟩))
        go_ret
        exact ⟨rfl, hb2⟩
      | true =>
        cases b4 with
        | false =>
          go_enter Tryz.func182, Tryz.ntmps182
          go_wp2_with (first
            | (go_at_call 210; (with_reducible refine HP.mono ?_); rintro e w1 ⟨rfl, rfl⟩)
            | (go_at_call 213; (with_reducible refine (H1 _).mono ?_); rintro e w2 ⟨rfl, rfl⟩)
            | (go_at_call 213; (with_reducible refine (H2 _).mono ?_); rintro e w2 ⟨rfl, rfl⟩)
            | (go_at_call 213; (with_reducible refine (H3 _).mono ?_); rintro e w2 ⟨rfl, rfl⟩))
          go_ret
          exact ⟨rfl, hb2⟩
        | true =>
          cases pe with
          | true =>
            go_enter Tryz.func182, Tryz.ntmps182
            go_wp2_with (first
              | (go_at_call 210; (with_reducible refine HP.mono ?_); rintro e w1 ⟨rfl, rfl⟩)
              | (go_at_call 213; (with_reducible refine (H1 _).mono ?_); rintro e w2 ⟨rfl, rfl⟩)
              | (go_at_call 213; (with_reducible refine (H2 _).mono ?_); rintro e w2 ⟨rfl, rfl⟩)
              | (go_at_call 213; (with_reducible refine (H3 _).mono ?_); rintro e w2 ⟨rfl, rfl⟩))
            go_ret
            exact ⟨rfl, hb2⟩
          | false =>
            cases b6 with
            | false =>
              go_enter Tryz.func182, Tryz.ntmps182
              go_wp2_with (first
                | (go_at_call 210; (with_reducible refine HP.mono ?_); rintro e w1 ⟨rfl, rfl⟩)
                | (go_at_call 213; (with_reducible refine (H1 _).mono ?_); rintro e w2 ⟨rfl, rfl⟩)
                | (go_at_call 213; (with_reducible refine (H2 _).mono ?_); rintro e w2 ⟨rfl, rfl⟩)
                | (go_at_call 213; (with_reducible refine (H3 _).mono ?_); rintro e w2 ⟨rfl, rfl⟩))
              go_ret
              exact ⟨rfl, hb2⟩
            | true =>
              go_enter Tryz.func182, Tryz.ntmps182
              go_wp2_with (first
                | (go_at_call 210; (with_reducible refine HP.mono ?_); rintro e w1 ⟨rfl, rfl⟩)
                | (go_at_call 213; (with_reducible refine (H1 _).mono ?_); rintro e w2 ⟨rfl, rfl⟩)
                | (go_at_call 213; (with_reducible refine (H2 _).mono ?_); rintro e w2 ⟨rfl, rfl⟩)
                | (go_at_call 213; (with_reducible refine (H3 _).mono ?_); rintro e w2 ⟨rfl, rfl⟩))
              go_ret
              exact ⟨rfl, hb2⟩
theorem right_parts (x : ItemL) : rightX x = (keyB x.name x.dom x.path && cooB x.val x.pers x.exp x.made x.used) := by
  have hp : (!(x.path == []) && (x.path.getD 0 0 == 47)) = decide (x.path.getD 0 0 = 47) := by
    cases x.path with
    | nil => rfl
    | cons c r =>
      rw [Bool.eq_iff_iff]
      simp
  have hq : (!decide (x.name.findIdx (· == 61) < x.name.length)) = decide (x.name.findIdx (· == 61) = x.name.length) := by
    have : x.name.findIdx (· == 61) ≤ x.name.length := List.findIdx_le_length
    rw [← decide_not, decide_eq_decide]
    omega
  have h1 : (!decide (256 < x.name.length)) = decide ((x.name.length : Int) ≤ 256) := by rw [← decide_not, decide_eq_decide]; omega
  have h2 : (!decide (1024 < x.val.length)) = decide ((x.val.length : Int) ≤ 1024) := by rw [← decide_not, decide_eq_decide]; omega
  have h3 : (!decide (256 < x.path.length)) = decide (x.path.length ≤ 256) := by rw [← decide_not, decide_eq_decide]; omega
  unfold rightX keyB cooB partB plainB
  rw [← hp, ← h1, ← h2, ← h3]
  simp only [List.all_cons, List.all_nil, Bool.and_true]
  rw [← hq]
  generalize (x.name == []) = a1
  generalize decide (256 < x.name.length) = a2
  generalize x.name.any ctl = a3
  generalize decide (x.name.findIdx (· == 59) = x.name.length) = a4
  generalize (trimL x.name == x.name) = a5
  generalize decide (x.name.findIdx (· == 61) < x.name.length) = a6
  generalize decide (1024 < x.val.length) = a7
  generalize x.val.any ctl = a8
  generalize decide (x.val.findIdx (· == 59) = x.val.length) = a9
  generalize (trimL x.val == x.val) = c1
  generalize canonB x.dom = c2
  generalize (x.path == []) = c3
  generalize (x.path.getD 0 0 == 47) = c4
  generalize decide (256 < x.path.length) = c5
  generalize decide (-1099511627776 ≤ x.exp) = d1
  generalize decide (x.exp ≤ 1099511627776) = d2
  generalize decide (0 ≤ x.made) = d3
  generalize decide (x.made ≤ 1099511627776) = d4
  generalize decide (0 ≤ x.used) = d5
  generalize decide (x.used ≤ 1099511627776) = d6
  generalize (x.pers || x.exp == 1099511627776) = d7
  clear hp hq h1 h2 h3
  rw [Bool.eq_iff_iff]
  simp only [Bool.and_eq_true, Bool.not_eq_true', Bool.or_eq_false_iff, Bool.not_eq_false']
  constructor
  · rintro ⟨h1, h2, h3⟩
    simp_all
  · rintro ⟨h1, h2⟩
    simp_all
set_option maxHeartbeats 2000000 in
set_option maxRecDepth 100000 in
theorem rightC14 (nm dm pa va : List UInt8) (ho se ht pe : Bool) (ex cr ac : Int) (w : World) (l1 : nm.length ≤ 100000) (l2 : dm.length ≤ 100000) (l3 : pa.length ≤ 100000) (l4 : va.length ≤ 100000) (hT : PTab Tryz.prog w) :
    Calls Tryz.prog 149 #[.agg #[.string (str nm), .string (str dm), .string (str pa), .string (str va), .bool ho, .bool se, .bool ht, .bool pe, .int .i64 ex, .int .i64 cr, .int .i64 ac]] w fun e w' => e = .returned (.bool (rightX ⟨nm, dm, pa, va, ho, se, ht, pe, ex, cr, ac⟩)) ∧ Below w.heap.size w w' := by
  have hb1 := below_alloc w (.cells #[.string (str nm), .string (str dm), .string (str pa), .string (str va), .bool ho, .bool se, .bool ht, .bool pe, .int .i64 ex, .int .i64 cr, .int .i64 ac] 156)
  have o1 := ObjAt.new w #[.string (str nm), .string (str dm), .string (str pa), .string (str va), .bool ho, .bool se, .bool ht, .bool pe, .int .i64 ex, .int .i64 cr, .int .i64 ac] 156
  have HK := rightKeyC nm dm pa _ l1 l2 l3 (hT.below hb1)
  have HC := fun w => rightCookieC va ho se ht pe ex cr ac w l4
  rw [right_parts]
  dsimp only
  generalize keyB nm dm pa = k at *
  generalize cooB va pe ex cr ac = c at *
  clear l1 l2 l3 l4 hT
  cases k with
  | false =>
    go_enter Tryz.func149, Tryz.ntmps149
    go_wp2_with (first
      | (go_at_call 181; (with_reducible refine HK.mono ?_); rintro e w1 ⟨rfl, hx⟩; have o2 := o1.below hx o1.lt; have hb2 := hb1.trans (hx.mono hb1.size); clear hx; have c3 := o2.cell 3 rfl; have c4 := o2.cell 4 rfl; have c5 := o2.cell 5 rfl; have c6 := o2.cell 6 rfl; have c7 := o2.cell 7 rfl; have c8 := o2.cell 8 rfl; have c9 := o2.cell 9 rfl; have c10 := o2.cell 10 rfl)
      | (go_at_call 182; (with_reducible refine (HC _).mono ?_); rintro e w2 ⟨rfl, hx⟩; have hb3 := hb2.trans (hx.mono hb2.size); clear hx))
    go_ret
    exact ⟨rfl, by first | exact hb3 | exact hb2⟩
  | true =>
    go_enter Tryz.func149, Tryz.ntmps149
    go_wp2_with (first
      | (go_at_call 181; (with_reducible refine HK.mono ?_); rintro e w1 ⟨rfl, hx⟩; have o2 := o1.below hx o1.lt; have hb2 := hb1.trans (hx.mono hb1.size); clear hx; have c3 := o2.cell 3 rfl; have c4 := o2.cell 4 rfl; have c5 := o2.cell 5 rfl; have c6 := o2.cell 6 rfl; have c7 := o2.cell 7 rfl; have c8 := o2.cell 8 rfl; have c9 := o2.cell 9 rfl; have c10 := o2.cell 10 rfl)
      | (go_at_call 182; (with_reducible refine (HC _).mono ?_); rintro e w2 ⟨rfl, hx⟩; have hb3 := hb2.trans (hx.mono hb2.size); clear hx))
    go_ret
    exact ⟨rfl, by first | exact hb3 | exact hb2⟩
theorem dotLessG (x y : DotN) (w : World) :
    Calls Tryz.prog 139 #[.agg #[.int .i64 x.dev, .int .i64 x.inc, .int .i64 x.seq], .agg #[.int .i64 y.dev, .int .i64 y.inc, .int .i64 y.seq]] w fun e w' => e = .returned (.bool (lessD x y)) ∧ Below w.heap.size w w' := by
  obtain ⟨o1, o2, hb⟩ := objsE2 w #[.int .i64 x.dev, .int .i64 x.inc, .int .i64 x.seq] #[.int .i64 y.dev, .int .i64 y.inc, .int .i64 y.seq] 35 35
  have u0 := o1.cell 0 rfl; have u1 := o1.cell 1 rfl; have u2 := o1.cell 2 rfl
  have v0 := o2.cell 0 rfl; have v1 := o2.cell 1 rfl; have v2 := o2.cell 2 rfl
  have H1 := fun w => dotOrderG x y w
  have hneg := ord_neg x y
  generalize ordD x y = C at *
  rw [← hneg]
  clear hneg
  go_enter Tryz.func139, Tryz.ntmps139
  go_wp2_with (go_at_call 137; (with_reducible refine (H1 _).mono ?_); rintro e w1 ⟨rfl, hx⟩; have hb := hb.trans (hx.below.mono hb.size))
  go_ret
  exact ⟨rfl, hb⟩
theorem zero_less {x : DotN} (h : rightD x = true) : lessD ⟨0, 0, 0⟩ x = true := by
  obtain ⟨d0, d1, e0, e1, s0, s1⟩ := right_range h
  rw [lessD_iff]
  dsimp only
  omega
theorem same_like2 (x y : ItemL) : sameI x y = (sameKey x y && likeC x y) := by
  rw [Bool.eq_iff_iff, sameI_iff, sameKC_iff]
theorem eqItemO (x : ItemL) (w : World) :
    Sem.run Tryz.prog (Op.equalIn 10000 156 (.agg #[.string (str x.name), .string (str x.dom), .string (str x.path), .string (str x.val), .bool x.host, .bool x.sec, .bool x.http, .bool x.pers, .int .i64 x.exp, .int .i64 x.made, .int .i64 x.used]) (.agg #[.string ⟨#[]⟩, .string ⟨#[]⟩, .string ⟨#[]⟩, .string ⟨#[]⟩, .bool false, .bool false, .bool false, .bool false, .int .i64 0, .int .i64 0, .int .i64 0])) w = Result.ok (sameKey x ItemL.none && likeC x ItemL.none) w := by
  rw [← same_like2]
  exact eqItem2 x ItemL.none w
set_option maxHeartbeats 2000000 in
set_option maxRecDepth 100000 in
theorem itemE (e : EventN) (a : Option Addr) (n c : Nat) (w : World) :
    Calls Tryz.prog 150 #[.agg #[.int .i64 e.dot.dev, .int .i64 e.dot.inc, .int .i64 e.dot.seq, .int .i64 e.stamp.wall, .int .i64 e.stamp.count, .int .i64 e.stamp.dev, .int .i64 e.kind, .string (str e.item.name), .string (str e.item.dom), .string (str e.item.path), .string (str e.item.val), .bool e.item.host, .bool e.item.sec, .bool e.item.http, .bool e.item.pers, .int .i64 e.item.exp, .int .i64 e.item.made, .int .i64 e.item.used, .slice a n c]] w fun en w' => en = .returned (.agg #[.string (str e.item.name), .string (str e.item.dom), .string (str e.item.path), .string (str e.item.val), .bool e.item.host, .bool e.item.sec, .bool e.item.http, .bool e.item.pers, .int .i64 e.item.exp, .int .i64 e.item.made, .int .i64 e.item.used]) ∧ Below w.heap.size w w' := by
  have hb := below_alloc w (.cells #[.int .i64 e.dot.dev, .int .i64 e.dot.inc, .int .i64 e.dot.seq, .int .i64 e.stamp.wall, .int .i64 e.stamp.count, .int .i64 e.stamp.dev, .int .i64 e.kind, .string (str e.item.name), .string (str e.item.dom), .string (str e.item.path), .string (str e.item.val), .bool e.item.host, .bool e.item.sec, .bool e.item.http, .bool e.item.pers, .int .i64 e.item.exp, .int .i64 e.item.made, .int .i64 e.item.used, .slice a n c] 43)
  have o1 := ObjAt.new w #[.int .i64 e.dot.dev, .int .i64 e.dot.inc, .int .i64 e.dot.seq, .int .i64 e.stamp.wall, .int .i64 e.stamp.count, .int .i64 e.stamp.dev, .int .i64 e.kind, .string (str e.item.name), .string (str e.item.dom), .string (str e.item.path), .string (str e.item.val), .bool e.item.host, .bool e.item.sec, .bool e.item.http, .bool e.item.pers, .int .i64 e.item.exp, .int .i64 e.item.made, .int .i64 e.item.used, .slice a n c] 43
  generalize hv : w.alloc (.cells #[.int .i64 e.dot.dev, .int .i64 e.dot.inc, .int .i64 e.dot.seq, .int .i64 e.stamp.wall, .int .i64 e.stamp.count, .int .i64 e.stamp.dev, .int .i64 e.kind, .string (str e.item.name), .string (str e.item.dom), .string (str e.item.path), .string (str e.item.val), .bool e.item.host, .bool e.item.sec, .bool e.item.http, .bool e.item.pers, .int .i64 e.item.exp, .int .i64 e.item.made, .int .i64 e.item.used, .slice a n c] 43) = v at *
  have o2 := ObjAt.new v #[.string ⟨#[]⟩, .string ⟨#[]⟩, .string ⟨#[]⟩, .string ⟨#[]⟩, .bool false, .bool false, .bool false, .bool false, .int .i64 0, .int .i64 0, .int .i64 0] 156
  have b2 := below_alloc v (.cells #[.string ⟨#[]⟩, .string ⟨#[]⟩, .string ⟨#[]⟩, .string ⟨#[]⟩, .bool false, .bool false, .bool false, .bool false, .int .i64 0, .int .i64 0, .int .i64 0] 156)
  have o1 := o1.below b2 o1.lt
  have u7 := o1.cell 7 rfl; have u8 := o1.cell 8 rfl; have u9 := o1.cell 9 rfl; have u10 := o1.cell 10 rfl; have u11 := o1.cell 11 rfl; have u12 := o1.cell 12 rfl; have u13 := o1.cell 13 rfl; have u14 := o1.cell 14 rfl; have u15 := o1.cell 15 rfl; have u16 := o1.cell 16 rfl; have u17 := o1.cell 17 rfl
  have o3 := ObjAt.new v #[.string (str e.item.name), .string (str e.item.dom), .string (str e.item.path), .string (str e.item.val), .bool e.item.host, .bool e.item.sec, .bool e.item.http, .bool e.item.pers, .int .i64 e.item.exp, .int .i64 e.item.made, .int .i64 e.item.used] 156
  have b3 := hb.trans ((below_alloc v (.cells #[.string (str e.item.name), .string (str e.item.dom), .string (str e.item.path), .string (str e.item.val), .bool e.item.host, .bool e.item.sec, .bool e.item.http, .bool e.item.pers, .int .i64 e.item.exp, .int .i64 e.item.made, .int .i64 e.item.used] 156)).mono hb.size)
  go_enter Tryz.func150, Tryz.ntmps150
  go_wp2
  have r0 := o3.cell 0 rfl; have r1 := o3.cell 1 rfl; have r2 := o3.cell 2 rfl; have r3 := o3.cell 3 rfl; have r4 := o3.cell 4 rfl; have r5 := o3.cell 5 rfl; have r6 := o3.cell 6 rfl; have r7 := o3.cell 7 rfl; have r8 := o3.cell 8 rfl; have r9 := o3.cell 9 rfl; have r10 := o3.cell 10 rfl
  exact bodyPost_ret (v := .agg #[.string (str e.item.name), .string (str e.item.dom), .string (str e.item.path), .string (str e.item.val), .bool e.item.host, .bool e.item.sec, .bool e.item.http, .bool e.item.pers, .int .i64 e.item.exp, .int .i64 e.item.made, .int .i64 e.item.used]) (by simp [results, Tryz.results150, go_sem, r0, r1, r2, r3, r4, r5, r6, r7, r8, r9, r10]) rfl ⟨rfl, b3⟩
theorem cloneR (r : EvR) (A : Array Value) (hA : (encE r).toArray = A) (w : World) (h : RowOf encD 3 w r.a r.e.over.length r.c r.e.over) (hl : lightE r.e = true) :
    Calls Tryz.prog 116 #[.agg A] w fun en w' => ∃ q : EvR, q.e = r.e ∧ en = .returned (.agg (encE q).toArray) ∧ RowOf encD 3 w' q.a q.e.over.length q.c q.e.over ∧ (∀ k, At q.a k → w.heap.size ≤ k) ∧ Below w.heap.size w w' := by
  subst hA
  refine (eventCloneC0 r.e r.a _ r.c w h hl).mono ?_
  rintro en w' ⟨b, d, rfl, hz, hb⟩
  refine ⟨⟨r.e, b, d⟩, rfl, rfl, hz.row encD_len, fun k hk => ?_, hb⟩
  rcases hz.head with ⟨h1, -, -⟩ | ⟨g, h1, h2, -⟩
  · rw [show b = none from h1] at hk
    exact absurd hk (at_none k)
  · rw [show b = some ⟨g, 0, none⟩ from h1] at hk
    have := at_some.1 hk
    dsimp only at this
    omega
theorem over_at {q : EvR} {k : Nat} (h : At (overA q) k) : At q.a k := by
  unfold overA at h
  split at h
  · exact absurd h (at_none k)
  · exact h
set_option maxRecDepth 100000 in
set_option maxHeartbeats 2000000 in
theorem mDeadP {w : World} {p : Nat} {B : Slots} {rs : List EvR} {c E : List DotN} {f : KeyT → List DotN} (h : Parts w p B rs c E f) (d : DotN) (hd : FitD d) : Calls Tryz.prog 38 #[.pointer (some ⟨p, 0, none⟩), .agg #[.int .i64 d.dev, .int .i64 d.inc, .int .i64 d.seq]] w fun en w' => en = .returned (.bool (hasD E d)) ∧ Below w.heap.size w w' := by
  have HO := mOrNewS p
  obtain ⟨dev, inc, seq⟩ := d
  dsimp only at *
  have o1 := ObjAt.new w #[.int .i64 dev, .int .i64 inc, .int .i64 seq] 35
  have b1 := below_alloc w (.cells #[.int .i64 dev, .int .i64 inc, .int .i64 seq] 35)
  have P1 := h.below b1
  generalize hw1 : w.alloc (.cells #[.int .i64 dev, .int .i64 inc, .int .i64 seq] 35) = w1 at *
  have l1 := o1.lt
  have HL := SetIs.look (P1.part .dead) hd w1.drew rfl
  have c2 := P1.obj.cell 2 rfl
  have v0 := o1.cell 0 rfl; have v1 := o1.cell 1 rfl; have v2 := o1.cell 2 rfl
  have bA := below_alloc w1 (.cells #[] 123)
  have PA := P1.below bA
  have oA := o1.below bA l1
  have HLA := SetIs.look (PA.part .dead) hd (w1.alloc (.cells #[] 123)).drew rfl
  have HLB := SetIs.look (PA.part .dead) hd (w1.drew.alloc (.cells #[] 123)) rfl
  dsimp only at HL HLA HLB
  have cA2 := PA.obj.cell 2 rfl
  have vA0 := oA.cell 0 rfl; have vA1 := oA.cell 1 rfl; have vA2 := oA.cell 2 rfl
  generalize hasD E ⟨dev, inc, seq⟩ = t at *
  go_enter Tryz.func38, Tryz.ntmps38
  go_wp2_with fail
  go_region_law ((try go_simp); go_at_call 73; (refine (HO _).mono ?_); rintro e w2 ⟨rfl, rfl⟩)
  all_goals (
    go_wp2
    go_ret
    exact ⟨rfl, b1.trans ((bA.mono b1.size).drew)⟩)
end Go.Proofs.YtaodjnkjjmhecaaGreatDoor
namespace Go.Proofs.YtaodjnkjjmhecaaGreatDoor
open Go.RowKit
set_option linter.unusedVariables false
set_option linter.unusedSimpArgs false
theorem KeptIs.mapC {w : World} {o : Option Nat} {rs : List EvR} (h : KeptIs w o rs) : ∃ D, MapC w 35 heldElem o D ∧ KeptD D rs ∧ Go.Maps.Tidy D := by
  rcases h with ⟨rfl, rfl⟩ | ⟨b, n, D, rfl, hm, hD⟩
  · exact ⟨_, .inl ⟨rfl, rfl⟩, KeptD.empty, ⟨[], rfl, List.Pairwise.nil⟩⟩
  · exact ⟨D, .inr ⟨b, n, rfl, hm⟩, hD, hm.tidy keyedDot⟩
theorem KeysIs.mapC {w : World} {o : Option Nat} {B : Slots} (h : KeysIs w o B) : ∃ D, MapC w 39 heldElem o D ∧ KeysD D B ∧ Go.Maps.Tidy D := by
  rcases h with ⟨rfl, h0⟩ | ⟨b, n, D, rfl, hm, hD⟩
  · exact ⟨_, .inl ⟨rfl, rfl⟩, KeysD.empty h0, ⟨[], rfl, List.Pairwise.nil⟩⟩
  · exact ⟨D, .inr ⟨b, n, rfl, hm⟩, hD, hm.tidy keyedKey⟩
set_option maxRecDepth 100000 in
set_option maxHeartbeats 4000000 in
theorem keepP {w : World} {p : Nat} {B : Slots} {rs : List EvR} {m : MapN} (h : Real w p B rs m) (r : EvR) (A : Array Value) (hA : (encE r).toArray = A) (hE : RowOf encD 3 w r.a r.e.over.length r.c r.e.over) (hl : lightE r.e = true) (hr : rightE r.e = true) (hnew : ∀ e ∈ m.kept, e.dot ≠ r.e.dot) (hn : m.kept.length < 2048) :
    Calls Tryz.prog 70 #[.pointer (some ⟨p, 0, none⟩), .agg A] w fun e w' => e = .returned (.tuple #[]) ∧ ∃ B' q f, q.e = r.e ∧ Parts w' p B' (insR rs q) m.ctx m.dead f ∧ (∀ k, (f k).Perm (dotsK (insE m.kept r.e) m.dead k)) ∧ (∀ k, f k = [] → B' (.of k) = none) ∧
      Keeps (OwnB p B) w w' ∧ (∀ i b, B' i = some b → (∃ j, B j = some b) ∨ w.heap.size ≤ b) ∧ ∀ k, At (overA q) k → w.heap.size ≤ k := by
  have hx := right_fitD (right_dotE hr)
  have hP := h.parts
  obtain ⟨D, hM, hD, hT⟩ := h.kept.mapC
  have hsz : Go.Maps.size D ≤ 1000000 := by
    have := hD.size
    have h2 := h.few
    rw [← h.rs, List.length_map] at h2
    omega
  have hnewr : ∀ q ∈ rs, q.e.dot ≠ r.e.dot := fun q hq => hnew q.e (h.rs ▸ List.mem_map.2 ⟨q, hq, rfl⟩)
  have hins : ∀ q : EvR, q.e = r.e → SortedE ((insR rs q).map (·.e)) := fun q hq => by
    rw [ins_map, hq, h.rs]
    exact insE_sorted h.ok.ok.kept hnew
  have hput := fun (q : EvR) (hq : q.e = r.e) => hD.put (r := q) hT (hq ▸ hx) (fun y hy => hq ▸ hnewr y hy) (hins q hq)
  have hdp := dotsK_put m.kept m.dead r.e
  have hko : fitK (kOf r.e.item) := light_fitK hl
  have hsm := h.nothing
  have hnot : ∀ k, r.e.dot ∉ dotsK m.kept m.dead k := fun k c => by
    obtain ⟨e, he, hd, -⟩ := mem_dotsK.1 c
    exact hnew e he hd
  have hnd := fun k => dotsK_nodup h.ok.ok.kept m.dead k
  have hdl := fun k => Nat.le_trans (dotsK_few m.kept m.dead k) h.few
  have hkt := h.keys
  have hal : aliveB m.dead r.e = (r.e.kind == 1 && !hasD m.dead r.e.dot) := rfl
  have zA : A.size = 19 := by rw [← hA]; rfl
  have hA0 : (A.toList.drop 0).take 3 = [.int .i64 r.e.dot.dev, .int .i64 r.e.dot.inc, .int .i64 r.e.dot.seq] := by rw [← hA]; rfl
  have hi0 : A.toList[0]? = some (.int .i64 r.e.dot.dev) := by rw [← hA]; rfl
  have hi1 : A.toList[1]? = some (.int .i64 r.e.dot.inc) := by rw [← hA]; rfl
  have hi2 : A.toList[2]? = some (.int .i64 r.e.dot.seq) := by rw [← hA]; rfl
  have hi6 : A.toList[6]? = some (.int .i64 r.e.kind) := by rw [← hA]; rfl
  have hi7 : A.toList[7]? = some (.string (str r.e.item.name)) := by rw [← hA]; rfl
  have hi8 : A.toList[8]? = some (.string (str r.e.item.dom)) := by rw [← hA]; rfl
  have hi9 : A.toList[9]? = some (.string (str r.e.item.path)) := by rw [← hA]; rfl
  obtain ⟨be, hbe⟩ : ∃ be, w.heap.size = be := ⟨_, rfl⟩
  have oE := ObjAt.new w A 43
  have b1 := below_alloc w (.cells A 43)
  have hP1 := hP.below b1
  have hE1 := hE.below b1
  have hM1 := hM.below b1
  have hpe : p ≠ be := by have := hP.obj.lt; omega
  have hke : B .kept ≠ some be := fun e => by have := (hP.blk .kept be e).lt; omega
  rw [hbe] at oE
  generalize hw1 : w.alloc (.cells A 43) = w1 at *
  have lE := oE.lt
  have HC := fun v (hv : Below w1.heap.size w1 v) => cloneR r A hA v (hE1.below hv) hl
  have HP := fun v (hv : Below w1.heap.size w1 v) (q : EvR) => putEvC p 1 (cellsB B) (B .kept) D r.e.dot (encE q).toArray v hx rfl (hP1.below hv).obj rfl (hM1.below hv) (by omega)
  obtain ⟨dev, hdev⟩ : ∃ d, r.e.dot.dev = d := ⟨_, rfl⟩
  obtain ⟨inc, hinc⟩ : ∃ d, r.e.dot.inc = d := ⟨_, rfl⟩
  obtain ⟨seq, hseq⟩ : ∃ d, r.e.dot.seq = d := ⟨_, rfl⟩
  have hxe : r.e.dot = ⟨dev, inc, seq⟩ := DotN.ext' hdev hinc hseq
  obtain ⟨k1, hk1⟩ : ∃ d, r.e.item.name = d := ⟨_, rfl⟩
  obtain ⟨k2, hk2'⟩ : ∃ d, r.e.item.dom = d := ⟨_, rfl⟩
  obtain ⟨k3, hk3⟩ : ∃ d, r.e.item.path = d := ⟨_, rfl⟩
  have hKe : kOf r.e.item = (k1, k2, k3) := by unfold kOf; rw [hk1, hk2', hk3]
  rw [hxe] at hx hal hnot
  rw [hKe] at hko hdp
  simp only [hxe] at HP hput hdp
  rw [hdev] at hi0 hA0; rw [hinc] at hi1 hA0; rw [hseq] at hi2 hA0
  rw [hk1] at hi7; rw [hk2'] at hi8; rw [hk3] at hi9
  obtain ⟨kd, hkd⟩ : ∃ d, r.e.kind = d := ⟨_, rfl⟩
  rw [hkd] at hi6 hal
  clear hA hE1 hE hM hl hr hnewr hins hD hT
  have hb : Below w1.heap.size w1 w1.drew := (Below.refl _ _).drew
  go_enter Tryz.func70, Tryz.ntmps70
  go_wp2_with fail
  refine wp_region_held_drew (S := fun w' => ObjAt w' be A.toList) (by kernel_rfl) (oE.below hb lE) (fun hHeld => ?_)
  first | (refine tR (i := 0) rfl rfl ?_) | (refine tL (i := 0) (v := ?vb1) rfl ?hyb1 ?rb1; case hyb1 => (rintro w' hS; go_simp; try with_reducible rfl))
  try simp only [gA, gB, Act.put, gD, gE, gF]
  first | (refine tR (i := 1) rfl rfl ?_) | (refine tL (i := 1) (v := ?vb2) rfl ?hyb2 ?rb2; case hyb2 => (rintro w' hS; go_simp; try with_reducible rfl))
  try simp only [gA, gB, gC, Act.put, gD, gE, gF]
  first | (refine tR (i := 2) rfl rfl ?_) | (refine tL (i := 2) (v := ?vb3) rfl ?hyb3 ?rb3; case hyb3 => (rintro w' hS; go_simp; try with_reducible rfl))
  try simp only [gA, gB, gC, Act.put, gD, gE, gF]
  first | (refine tR (i := 3) rfl rfl ?_) | (refine tL (i := 3) (v := ?vb4) rfl ?hyb4 ?rb4; case hyb4 => (rintro w' hS; go_simp; try with_reducible rfl))
  try simp only [gA, gB, gC, Act.put, gD, gE, gF]
  refine wpAnyH_take (i := 4) rfl (by kernel_rfl) (by kernel_rfl) (by kernel_rfl) (fun _ _ _ h => h) (Or.inl ⟨by rfl, fun w' hS => execLoadPart 35 _ rfl be 0 3 A [.int .i64 dev, .int .i64 inc, .int .i64 seq] rfl hS Tryz.isAgg35 Tryz.sizeOf35 hA0 rfl⟩) (by assumption) ?_
  try simp only [gA, gB, gC, Act.put, gD, gE, gF]
  refine wpAnyH_take (i := 5) rfl (by kernel_rfl) (by kernel_rfl) (by kernel_rfl) (fun _ _ _ h => h) (Or.inl ⟨by rfl, fun w' hS => execLoadAll 43 _ rfl be 19 A rfl hS Tryz.isAgg43 Tryz.sizeOf43 zA⟩) (by assumption) ?_
  try simp only [gA, gB, gC, Act.put, gD, gE, gF]
  refine wpAnyH_ready (rs := [6]) (by kernel_rfl) (by simp) ?_
  refine AllReadyH.cons (o := _) rfl (fun K hK => ?_) AllReadyH.nil
  go_simp
  go_at_call 116; (with_reducible refine (HC _ hb).mono ?_); rintro e wq ⟨q, hqe, rfl, hqo, hqn, hxq⟩; have hbq := hb; have hb := hb.trans (hxq.mono hb.size)
  try dsimp only
  refine hK.out _ _ (oE.below hb lE) (fun hHeld => ?_)
  clear hK K
  try simp only [gA, gB, gC, Act.put, gD, gE, gF]
  refine wpAnyH_ready (rs := [7]) (by kernel_rfl) (by simp) ?_
  refine AllReadyH.cons (o := _) rfl (fun K hK => ?_) AllReadyH.nil
  go_simp
  go_at_call 115; (with_reducible refine (HP _ hb q).mono ?_); rintro e w2 ⟨rfl, bk2, nk2, q2, hm2, hk2, hbk⟩; have hbk := hbk.imp id And.right; have e2 : ObjAt w2 be A.toList := (oE.below hb lE).keeps hk2 (fun c => c.elim (fun c => hpe c.symm) (fun c => hke c))
  try dsimp only
  refine hK.out _ _ (e2) (fun hHeld => ?_)
  clear hK K
  try simp only [gA, gB, gC, Act.put, gD, gE, gF]
  refine wpAnyH_done (by kernel_rfl) ?_ _
  obtain ⟨B1, hB1d, hB1o⟩ := slots_put B .kept (some bk2)
  have hPd := hP1.below hb
  have hqat : ∀ k, At (overA q) k → w1.heap.size ≤ k := fun k hk => Nat.le_trans hbq.size (hqn k (over_at hk))
  have hlkp : ∀ b, B .kept = some b → b < w1.heap.size := fun b e => (hP1.blk .kept b e).lt
  have hlp1 : p < w1.heap.size := hP1.obj.lt
  have hP2 : Parts w2 p B1 (insR rs q) m.ctx m.dead (dotsK m.kept m.dead) := by
    refine hPd.set .kept (fun k q => by cases q) hB1o hk2 ?_ (fun b e => ?_) (fun c => absurd rfl c) (fun _ => rfl) (fun _ => rfl) ?_ (fun y hy => ?_)
    · have e : cellsB B1 = (cellsB B).set 1 (.map (some bk2)) := by
        unfold cellsB
        rw [hB1d, hB1o .ctx (fun q => by cases q), hB1o .dead (fun q => by cases q), hB1o .keys (fun q => by cases q)]
        rfl
      rw [e]
      exact q2
    · rw [hB1d] at e
      cases e
      exact hbk
    · show KeptIs w2 (B1 .kept) _
      rw [hB1d]
      refine .inr ⟨bk2, nk2, _, rfl, hm2, ?_⟩
      have := hput q hqe
      rw [hqe, hxe] at this
      exact this
    · have hmem : y = q ∨ y ∈ rs := by
        unfold insR at hy
        rcases List.mem_append.1 hy with c | c
        · exact .inr (List.mem_of_mem_take c)
        · rcases List.mem_cons.1 c with c | c
          · exact .inl c
          · exact .inr (List.mem_of_mem_drop c)
      rcases hmem with rfl | hy
      · refine over_keeps hqo hk2 fun k hk hc => ?_
        have h1 := hqat k hk
        rcases hc with rfl | hc
        · omega
        · have := hlkp k hc
          omega
      · exact over_keeps (hPd.over y hy) hk2 fun k hk hc => hPd.over_apart y hy k hk (hc.imp id fun c => ⟨_, c⟩)
  have hk02 : Keeps (OwnB p B) w w2 := ((Keeps.new b1).trans (Keeps.new (F := OwnB p B) hb) (fun _ _ h => h)).trans hk2 fun k _ hc => hc.imp id fun c => ⟨_, c⟩
  have hw12 := b1.size
  have hw2 : w.heap.size ≤ w2.heap.size := hk02.size
  have hown2 : ∀ i b, B1 i = some b → (∃ j, B j = some b) ∨ be ≤ b := by
    intro i b e
    by_cases q : i = .kept
    · subst q
      rw [hB1d] at e
      cases e
      rcases hbk with c | c
      · exact .inl ⟨_, c⟩
      · exact .inr (by have := hb.size; omega)
    · rw [hB1o i q] at e
      exact .inl ⟨i, e⟩
  have hof2 := Lib.hid (show ∀ k, B1 (.of k) = B (.of k) from fun k => hB1o _ (fun q => by cases q))
  have hkeys2 := Lib.hid (hB1o .keys (fun q => by cases q))
  have hov : ∀ k, At (overA q) k → w.heap.size ≤ k := fun k hk => Nat.le_trans hw12 (hqat k hk)
  clear hB1o hB1d hk2 q2 hm2 hPd hP1 hM1 HP HC oE b1 hb hHeld hqo hqn hxq hbq hput hqat hlkp hP hbk hdev hinc hseq hk1 hk2' hk3
  have lE2 := e2.lt
  have y0 := e2.cell 0 hi0; have y1 := e2.cell 1 hi1; have y2 := e2.cell 2 hi2; have y6 := e2.cell 6 hi6
  have HD := fun v (hv : Below w2.heap.size w2 v) => mDeadP (hP2.below hv) ⟨dev, inc, seq⟩ hx
  dsimp only at HD
  have hdone : ∀ v, Below w2.heap.size w2 v → ¬ (aliveB m.dead r.e = true) → ∃ B' q f, q.e = r.e ∧ Parts v p B' (insR rs q) m.ctx m.dead f ∧ (∀ k, (f k).Perm (dotsK (insE m.kept r.e) m.dead k)) ∧ (∀ k, f k = [] → B' (.of k) = none) ∧
      Keeps (OwnB p B) w v ∧ (∀ i b, B' i = some b → (∃ j, B j = some b) ∨ w.heap.size ≤ b) ∧ ∀ k, At (overA q) k → w.heap.size ≤ k := by
    intro v hv hna
    refine ⟨B1, q, _, hqe, hP2.below hv, fun k => ?_, fun k e => ?_, hk02.trans (Keeps.new (F := OwnB p B) hv) (fun _ _ h => h), fun i b e => ?_, hov⟩
    · have := hdp k
      rw [if_neg (fun c => hna c.1)] at this
      exact this.symm
    · rw [hof2.out]
      exact hsm k e
    · rw [hbe]
      exact hown2 i b e
  have HDone := Lib.hid hdone
  clear hdone
  have HAL := Lib.hid hal
  clear hal
  by_cases hk1' : kd = 1
  · have t1 : (kd == 1) = true := by rw [hk1']; rfl
    have hk1 := Lib.hid hk1'
    clear hk1'
    cases hdd : hasD m.dead ⟨dev, inc, seq⟩ with
    | true =>
      rw [hdd] at HD
      go_wp2_with (go_at_call 38; (with_reducible refine (HD _ (Below.refl _ _)).mono ?_); rintro e w3 ⟨rfl, hx3⟩)
      go_end0
      exact ⟨rfl, HDone.out _ hx3 (by rw [HAL.out, hdd]; simp)⟩
    | false =>
      rw [hdd] at HD
      have hali : aliveB m.dead r.e = true := by rw [HAL.out, hdd, hk1.out]; rfl
      have HALI := Lib.hid hali
      clear hali
      go_wp2_with (go_at_call 38; (with_reducible refine (HD _ (Below.refl _ _)).mono ?_); rintro e w3 ⟨rfl, hx3⟩)
      have P3 := hP2.below hx3
      have e3 := e2.below hx3 lE2
      have hk03 := hk02.trans (Keeps.new (F := OwnB p B) hx3) (fun _ _ h => h)
      have hw3 := hx3.size
      clear hP2 e2 hk02 HD HDone y0 y1 y2 y6 hx3
      have lE3 := e3.lt
      obtain ⟨O, hO⟩ : ∃ O, B1 (.of (k1, k2, k3)) = O := ⟨_, rfl⟩
      have hS3 : ∀ v, Below w3.heap.size w3 v → v.cell? ⟨p, 3, none⟩ = some (.map (B1 .keys)) ∧ v.cell? ⟨be, 7, none⟩ = some (.string (str k1)) ∧ v.cell? ⟨be, 8, none⟩ = some (.string (str k2)) ∧ v.cell? ⟨be, 9, none⟩ = some (.string (str k3)) ∧ KeysIs v (B1 .keys) B1 := fun v hv => ⟨(P3.below hv).obj.cell 3 rfl, (e3.below hv lE3).cell 7 hi7, (e3.below hv lE3).cell 8 hi8, (e3.below hv lE3).cell 9 hi9, (P3.below hv).part .keys⟩
      have c7 : Below w3.heap.size w3 (w3.drew.alloc (.cells #[.map none] 103)) := (Below.refl _ _).drew.trans ((below_alloc w3.drew (.cells #[.map none] 103)).mono (Nat.le_refl _))
      have o7 := ObjAt.new w3.drew #[.map none] 103
      have p7 := ObjAt.new w3 #[.map none] 103
      obtain ⟨bo, hbo⟩ : ∃ bo, w3.heap.size = bo := ⟨_, rfl⟩
      rw [show w3.drew.heap.size = bo from hbo] at o7
      rw [hbo] at p7
      have hbo' : w3.heap.size ≤ bo := Nat.le_of_eq hbo
      have c8 : Below w3.heap.size w3 (w3.alloc (.cells #[.map O] 103)).drew := (below_alloc w3 (.cells #[.map O] 103)).drew
      have o8 := (ObjAt.new w3 #[.map O] 103).drew
      rw [hbo] at o8
      have z0 := p7.cell 0 rfl; have g0 := p7.free 0
      refine wp_region_held_drew (S := fun w' => w'.cell? ⟨p, 3, none⟩ = some (.map (B1 .keys)) ∧ w'.cell? ⟨be, 7, none⟩ = some (.string (str k1)) ∧ w'.cell? ⟨be, 8, none⟩ = some (.string (str k2)) ∧ w'.cell? ⟨be, 9, none⟩ = some (.string (str k3)) ∧ KeysIs w' (B1 .keys) B1) (by kernel_rfl) (hS3 _ (Below.refl _ _).drew) (fun hHeld => ?_)
      first | (refine tR (i := 0) rfl rfl ?_) | (refine tL (i := 0) (v := ?vb5) rfl ?hyb5 ?rb5; case hyb5 => (rintro w' hS; obtain ⟨hs0, hs1, hs2, hs3, hs4⟩ := hS; go_simp; try with_reducible rfl))
      try simp only [gA, gB, Act.put, gD, gE, gF]
      first | (refine tR (i := 1) rfl rfl ?_) | (refine tL (i := 1) (v := ?vb6) rfl ?hyb6 ?rb6; case hyb6 => (rintro w' hS; obtain ⟨hs0, hs1, hs2, hs3, hs4⟩ := hS; go_simp; try with_reducible rfl))
      try simp only [gA, gB, gC, Act.put, gD, gE, gF]
      first | (refine tR (i := 2) rfl rfl ?_) | (refine tL (i := 2) (v := ?vb7) rfl ?hyb7 ?rb7; case hyb7 => (rintro w' hS; obtain ⟨hs0, hs1, hs2, hs3, hs4⟩ := hS; go_simp; try with_reducible rfl))
      try simp only [gA, gB, gC, Act.put, gD, gE, gF]
      first | (refine tR (i := 3) rfl rfl ?_) | (refine tL (i := 3) (v := ?vb8) rfl ?hyb8 ?rb8; case hyb8 => (rintro w' hS; obtain ⟨hs0, hs1, hs2, hs3, hs4⟩ := hS; go_simp; try with_reducible rfl))
      try simp only [gA, gB, gC, Act.put, gD, gE, gF]
      first | (refine tR (i := 4) rfl rfl ?_) | (refine tL (i := 4) (v := ?vb9) rfl ?hyb9 ?rb9; case hyb9 => (rintro w' hS; obtain ⟨hs0, hs1, hs2, hs3, hs4⟩ := hS; go_simp; try with_reducible rfl))
      try simp only [gA, gB, gC, Act.put, gD, gE, gF]
      first | (refine tR (i := 5) rfl rfl ?_) | (refine tL (i := 5) (v := ?vb10) rfl ?hyb10 ?rb10; case hyb10 => (rintro w' hS; obtain ⟨hs0, hs1, hs2, hs3, hs4⟩ := hS; go_simp; try with_reducible rfl))
      try simp only [gA, gB, gC, Act.put, gD, gE, gF]
      refine wpAnyH_take (i := 6) (v := .map O) rfl (by kernel_rfl) (by kernel_rfl) (by kernel_rfl) (fun _ _ _ h => h) (Or.inl ⟨by rfl, fun w' hS => by obtain ⟨hs0, hs1, hs2, hs3, hs4⟩ := hS; exact exec_look (.tmp 26) (.tmp 28) 104 false rfl _ rfl _ rfl (hO ▸ (keys_look hs4 hko).1)⟩) (by assumption) ?_
      try simp only [gA, gB, gC, Act.put, gD, gE, gF]
      refine wpAnyH_ready (rs := [7]) (by kernel_rfl) (by simp) ?_
      refine AllReadyH.cons (o := _) rfl (fun K hK => ?_) AllReadyH.nil
      go_simp
      skip
      try dsimp only
      refine hK.out _ _ (hS3 _ c7) (fun hHeld => ?_)
      clear hK K
      try simp only [gA, gB, gC, Act.put, gD, gE, gF]
      refine wpAnyH_ready (rs := [8]) (by kernel_rfl) (by simp) ?_
      refine AllReadyH.cons (o := _) rfl (fun K hK => ?_) AllReadyH.nil
      go_simp
      skip
      try dsimp only
      refine hK.out _ _ (hS3 _ c8) (fun hHeld => ?_)
      clear hK K
      try simp only [gA, gB, gC, Act.put, gD, gE, gF]
      refine wpAnyH_done (by kernel_rfl) ?_ _
      have P4 := P3.below c8
      have e4 := e3.below c8 lE3
      have hk04 := hk03.trans (Keeps.new (F := OwnB p B) c8) (fun _ _ h => h)
      have hw4 := c8.size
      have hol := P3.own_lt
      clear P3 e3 hk03 hS3 c7 o7 p7 c8 z0 g0 hHeld
      generalize (w3.alloc (.cells #[.map O] 103)).drew = w4 at *
      have lE4 := e4.lt
      obtain ⟨D2, hM2, hD2, hT2⟩ := SetIs.mapC (show SetIs w4 (B1 (.of (k1, k2, k3))) (dotsK m.kept m.dead (k1, k2, k3)) from P4.part (.of (k1, k2, k3)))
      rw [hO] at hM2
      have HS := putSetC bo 0 [.map O] O D2 ⟨dev, inc, seq⟩ w4 hx o8 rfl hM2 (by have := hD2.size; have := hdl (k1, k2, k3); omega)
      have y0 := e4.cell 0 hi0; have y1 := e4.cell 1 hi1; have y2 := e4.cell 2 hi2
      have hmo : ∀ k, O = some k → OwnB p B1 k := fun k e => .inr ⟨_, hO.trans e⟩
      go_wp2_with (go_at_call 117; (with_reducible refine HS.mono ?_); rintro e w5 ⟨rfl, b, n5, q5, hm5, hk5, hb5⟩)
      have o5 : ObjAt w5 bo [.map (some b)] := q5
      have nOe : O ≠ some be := fun c => (P4.blk _ be (hO.trans c)).not_obj e4 rfl
      have nOo : O ≠ some bo := fun c => (P4.blk _ bo (hO.trans c)).not_obj o8 rfl
      have nbe : be ≠ bo := by omega
      have e5 : ObjAt w5 be A.toList := e4.keeps hk5 (fun c => c.elim nbe nOe)
      have hs5 : SetD (D2.put (keyD ⟨dev, inc, seq⟩) (.agg [])) (⟨dev, inc, seq⟩ :: dotsK m.kept m.dead (k1, k2, k3)) := hD2.put hT2 hx (hnot _)
      have hop : ∀ k, OwnB p B1 k → k ≠ bo := fun k hk c => by have := hol k hk; omega
      have hov4 : ∀ y ∈ insR rs q, ∀ k, At (overA y) k → k ≠ bo := fun y hy k hk c => by
        obtain ⟨i, n, hv⟩ := over_cell (P4.over y hy) k hk
        rw [c] at hv
        obtain ⟨e, h1⟩ := o8.heap
        simp only [World.cell?, h1] at hv
        rcases i with _ | i <;> simp at hv
      have hbl : b < w5.heap.size := hm5.lt
      have hP5 : ∃ f5, Parts w5 p B1 (insR rs q) m.ctx m.dead f5 ∧ (∀ k', k' ≠ (k1, k2, k3) → f5 k' = dotsK m.kept m.dead k') ∧ ∀ j, j ≠ .of (k1, k2, k3) → B1 j ≠ some b := by
        cases O with
        | none =>
          refine ⟨_, P4.keeps hk5 (fun k hk hc => ?_) (fun y hy k hk hc => ?_), fun _ _ => rfl, fun j hj c => ?_⟩
          · rcases hc with hc | hc
            · exact hop k hk hc
            · cases hc
          · rcases hc with hc | hc
            · exact hov4 y hy k hk hc
            · cases hc
          · rcases hb5 with hb5 | ⟨-, hb5⟩
            · cases hb5
            · have := (P4.blk j b c).lt
              omega
        | some b0 =>
          rcases hb5 with hb5 | ⟨hb5, -⟩
          · cases hb5
            refine ⟨fun k => if k = (k1, k2, k3) then ⟨dev, inc, seq⟩ :: dotsK m.kept m.dead (k1, k2, k3) else dotsK m.kept m.dead k, P4.setOf (k1, k2, k3) b hO hk5 (fun x hc => ?_) (fun k' hk' => if_neg hk') (.inr ⟨b, n5, _, rfl, hm5, by rw [if_pos rfl]; exact hs5⟩), fun k' hk' => if_neg hk', fun j hj c => hj (P4.inj j _ b c hO)⟩
            rcases hc with hc | hc
            · exact .inr ⟨fun c => hop x c hc, fun y hy c => hov4 y hy x c hc⟩
            · cases hc
              exact .inl rfl
          · cases hb5
      obtain ⟨f5, P5, hf5, hbj⟩ := hP5
      have hk05 : Keeps (OwnB p B) w w5 := hk04.trans hk5 fun k hk hc => by
        rcases hc with hc | hc
        · omega
        · rcases hown2 _ k (hO.trans hc) with c | c
          · exact .inr c
          · omega
      have hw5 : w4.heap.size ≤ w5.heap.size := hk5.size
      have hbown : (∃ j, B j = some b) ∨ w.heap.size ≤ b := by
        rcases hb5 with hb5 | ⟨-, hb5⟩
        · rw [hbe]
          exact hown2 _ b (hO.trans hb5)
        · exact .inr (by omega)
      have nbo : b ≠ bo := (ownsMap_blk hm5).not_obj o5
      have nb_e : b ≠ be := (ownsMap_blk hm5).not_obj e5
      have nb_p : b ≠ p := (ownsMap_blk hm5).not_obj P5.obj
      clear P4 e4 o8 hk04 HS hM2 hk5 y0 y1 y2 hb5 nOe nOo hol hmo q5
      have lE5 := e5.lt
      have lo5 := o5.lt
      have hS5 : ∀ v, Below w5.heap.size w5 v → v.cell? ⟨bo, 0, none⟩ = some (.map (some b)) ∧ v.cell? ⟨be, 7, none⟩ = some (.string (str k1)) ∧ v.cell? ⟨be, 8, none⟩ = some (.string (str k2)) ∧ v.cell? ⟨be, 9, none⟩ = some (.string (str k3)) := fun v hv => ⟨(o5.below hv lo5).cell 0 rfl, (e5.below hv lE5).cell 7 hi7, (e5.below hv lE5).cell 8 hi8, (e5.below hv lE5).cell 9 hi9⟩
      obtain ⟨Dk, hMk, hDk, hTk⟩ := KeysIs.mapC (P5.part .keys)
      have hkfew := KeysD.few hDk (K := m.kept) (E := m.dead) (fun k e => by rw [hof2.out]; exact hsm k e)
      have HK := fun v (hv : Below w5.heap.size w5 v) => putKeyC p 3 (cellsB B1) (B1 .keys) Dk k1 k2 k3 (some b) v hko.1 hko.2.1 hko.2.2 (P5.below hv).obj rfl (hMk.below hv) (by omega)
      have hb5' : Below w5.heap.size w5 w5.drew := (Below.refl _ _).drew
      have nkp := P5.not_obj .keys
      have nke : B1 .keys ≠ some be := fun c => (P5.blk _ be c).not_obj e5 rfl
      have nko : B1 .keys ≠ some bo := fun c => (P5.blk _ bo c).not_obj o5 rfl
      have npe : p ≠ be := hpe
      have npo : p ≠ bo := fun c => hop p (.inl rfl) c
      refine wp_region_held_drew (S := fun w' => w'.cell? ⟨bo, 0, none⟩ = some (.map (some b)) ∧ w'.cell? ⟨be, 7, none⟩ = some (.string (str k1)) ∧ w'.cell? ⟨be, 8, none⟩ = some (.string (str k2)) ∧ w'.cell? ⟨be, 9, none⟩ = some (.string (str k3))) (by kernel_rfl) (hS5 _ (Below.refl _ _).drew) (fun hHeld => ?_)
      first | (refine tR (i := 0) rfl rfl ?_) | (refine tL (i := 0) (v := ?vb11) rfl ?hyb11 ?rb11; case hyb11 => (rintro w' hS; obtain ⟨hs0, hs1, hs2, hs3⟩ := hS; go_simp; try with_reducible rfl))
      try simp only [gA, gB, Act.put, gD, gE, gF]
      first | (refine tR (i := 1) rfl rfl ?_) | (refine tL (i := 1) (v := ?vb12) rfl ?hyb12 ?rb12; case hyb12 => (rintro w' hS; obtain ⟨hs0, hs1, hs2, hs3⟩ := hS; go_simp; try with_reducible rfl))
      try simp only [gA, gB, gC, Act.put, gD, gE, gF]
      first | (refine tR (i := 2) rfl rfl ?_) | (refine tL (i := 2) (v := ?vb13) rfl ?hyb13 ?rb13; case hyb13 => (rintro w' hS; obtain ⟨hs0, hs1, hs2, hs3⟩ := hS; go_simp; try with_reducible rfl))
      try simp only [gA, gB, gC, Act.put, gD, gE, gF]
      first | (refine tR (i := 3) rfl rfl ?_) | (refine tL (i := 3) (v := ?vb14) rfl ?hyb14 ?rb14; case hyb14 => (rintro w' hS; obtain ⟨hs0, hs1, hs2, hs3⟩ := hS; go_simp; try with_reducible rfl))
      try simp only [gA, gB, gC, Act.put, gD, gE, gF]
      first | (refine tR (i := 4) rfl rfl ?_) | (refine tL (i := 4) (v := ?vb15) rfl ?hyb15 ?rb15; case hyb15 => (rintro w' hS; obtain ⟨hs0, hs1, hs2, hs3⟩ := hS; go_simp; try with_reducible rfl))
      try simp only [gA, gB, gC, Act.put, gD, gE, gF]
      first | (refine tR (i := 5) rfl rfl ?_) | (refine tL (i := 5) (v := ?vb16) rfl ?hyb16 ?rb16; case hyb16 => (rintro w' hS; obtain ⟨hs0, hs1, hs2, hs3⟩ := hS; go_simp; try with_reducible rfl))
      try simp only [gA, gB, gC, Act.put, gD, gE, gF]
      refine wpAnyH_ready (rs := [6]) (by kernel_rfl) (by simp) ?_
      refine AllReadyH.cons (o := _) rfl (fun K hK => ?_) AllReadyH.nil
      go_simp
      go_at_call 118; (with_reducible refine (HK _ hb5').mono ?_); rintro e w6 ⟨rfl, bq, nq, q6, hm6, hk6, hbq⟩; have o6 := (o5.below hb5' lo5).keeps hk6 (fun c => c.elim (fun c => npo c.symm) nko); have e6 := (e5.below hb5' lE5).keeps hk6 (fun c => c.elim (fun c => npe c.symm) nke)
      try dsimp only
      refine hK.out _ _ (⟨o6.cell 0 rfl, e6.cell 7 hi7, e6.cell 8 hi8, e6.cell 9 hi9⟩) (fun hHeld => ?_)
      clear hK K
      try simp only [gA, gB, gC, Act.put, gD, gE, gF]
      refine wpAnyH_done (by kernel_rfl) ?_ _
      go_wp2
      go_end0
      obtain ⟨Ba, hBa1, hBa2⟩ := slots_put B1 .keys (some bq)
      obtain ⟨B2, hB21, hB22⟩ := slots_put Ba (.of (k1, k2, k3)) (some b)
      have h2k : B2 .keys = some bq := (hB22 _ (fun q => by cases q)).trans hBa1
      have h2o : ∀ j, j ≠ .keys → j ≠ .of (k1, k2, k3) → B2 j = B1 j := fun j h1 h2 => (hB22 j h2).trans (hBa2 j h1)
      have P5d := P5.below hb5'
      have hkk := KeysD.put (B' := B2) (k := (k1, k2, k3)) hDk hTk hko b hB21 (fun k' hk' => h2o _ (fun q => by cases q) (fun c => hk' (by cases c; rfl)))
      rw [show keyT (k1, k2, k3) = keyK k1 k2 k3 from rfl] at hkk
      have hbq6 : B1 .keys = some bq ∨ w5.heap.size ≤ bq := hbq.imp id And.right
      have hm56 : w6.ownsMap Tryz.prog 35 unitElem b n5 (D2.put (keyD ⟨dev, inc, seq⟩) (.agg [])) := hk6.grownBy (fun c => c.elim nb_p (fun c => hbj .keys (fun q => by cases q) c)) (hm5.drew)
      refine ⟨rfl, B2, q, fun k => if k = (k1, k2, k3) then ⟨dev, inc, seq⟩ :: dotsK m.kept m.dead (k1, k2, k3) else dotsK m.kept m.dead k, hqe, P5d.setKey (k1, k2, k3) h2o hk6 ?_ (fun b' e => ?_) (fun b' e => ?_) (.inr ⟨bq, nq, _, h2k, hm6, hkk⟩) (fun k' hk' => by rw [if_neg hk', hf5 k' hk']) ?_, fun k => ?_, fun k e => ?_, ?_, fun i b' e => ?_, hov⟩
      · have e : cellsB B2 = (cellsB B1).set 3 (.map (some bq)) := by
          unfold cellsB
          rw [h2k, h2o .ctx (fun q => by cases q) (fun q => by cases q), h2o .kept (fun q => by cases q) (fun q => by cases q), h2o .dead (fun q => by cases q) (fun q => by cases q)]
          rfl
        rw [e]
        exact q6
      · rw [h2k] at e
        cases e
        exact hbq6
      · rw [hB21] at e
        cases e
        exact ⟨hbl, hbj⟩
      · rw [hB21, if_pos rfl]
        exact .inr ⟨b, n5, _, rfl, hm56, hs5⟩
      · dsimp only
        have h1 := hdp k
        rw [HALI.out] at h1
        by_cases ek : k = (k1, k2, k3)
        · rw [if_pos ek]
          rw [if_pos ⟨rfl, ek.symm⟩, ek] at h1
          rw [ek]
          exact h1.symm
        · rw [if_neg ek]
          rw [if_neg (fun c => ek c.2.symm)] at h1
          exact h1.symm
      · dsimp only at e
        by_cases ek : k = (k1, k2, k3)
        · rw [if_pos ek] at e
          cases e
        · rw [if_neg ek] at e
          rw [h2o _ (fun q => by cases q) (fun c => ek (by cases c; rfl)), hof2.out]
          exact hsm k e
      · refine (hk05.trans (Keeps.new (F := OwnB p B) hb5') (fun _ _ h => h)).trans hk6 fun k hk hc => ?_
        rcases hc with rfl | hc
        · exact .inl rfl
        · exact .inr ⟨.keys, hkeys2.out ▸ hc⟩
      · by_cases e1 : i = .of (k1, k2, k3)
        · rw [e1, hB21] at e
          cases e
          exact hbown
        · by_cases e2 : i = .keys
          · rw [e2, h2k] at e
            cases e
            rcases hbq6 with c | c
            · exact .inl ⟨.keys, hkeys2.out ▸ c⟩
            · exact .inr (by omega)
          · rw [h2o i e2 e1] at e
            rw [hbe]
            exact hown2 i b' e
  · have t1 : (kd == 1) = false := by simpa using hk1'
    go_wp2_with fail
    go_end0
    exact ⟨rfl, HDone.out _ (Below.refl _ _) (by rw [HAL.out, t1]; simp)⟩
theorem mKeepI {w : World} {p : Nat} {B : Slots} {rs : List EvR} {m : MapN} (h : Real w p B rs m) (r : EvR) (A : Array Value) (hA : (encE r).toArray = A) (hE : RowOf encD 3 w r.a r.e.over.length r.c r.e.over) (hl : lightE r.e = true) (hr : rightE r.e = true) (hnew : ∀ e ∈ m.kept, e.dot ≠ r.e.dot) (hn : m.kept.length < 2048) (hsq : r.e.dot.seq ≤ getV m.ctx r.e.dot.dev r.e.dot.inc) :
    Calls Tryz.prog 70 #[.pointer (some ⟨p, 0, none⟩), .agg A] w fun e w' => e = .returned (.tuple #[]) ∧ ∃ B' q, q.e = r.e ∧ Step w w' p B rs B' (insR rs q) ⟨m.ctx, insE m.kept r.e, m.dead⟩ := by
  refine (keepP h r A hA hE hl hr hnew hn).mono ?_
  rintro e w' ⟨rfl, B', q, f, hq, hP, hf, hnone, hk, hown, hov⟩
  refine ⟨rfl, B', q, hq, ⟨Parts.real (m := ⟨m.ctx, insE m.kept r.e, m.dead⟩) (hP.congr (List.Perm.refl _) hf) (fun _ => rfl) (fun k e => hnone k ?_) (by rw [ins_map, hq, h.rs]) ⟨⟨h.ok.ok.ctx, insE_sorted h.ok.ok.kept hnew, fun e he => ?_⟩, fun e he => ?_, h.ok.dead, h.ok.rdead⟩ ?_ (fun e he => ?_), hk, hown, fun k hk2 => ?_⟩⟩
  · have := hf k
    rw [show dotsK (insE m.kept r.e) m.dead k = [] from e] at this
    exact this.eq_nil
  · rcases (insE_mem _ _ _).1 he with rfl | he
    · exact hsq
    · exact h.ok.ok.dots e he
  · rcases (insE_mem _ _ _).1 he with rfl | he
    · exact hr
    · exact h.ok.right e he
  · show (insE m.kept r.e).length ≤ 2048
    rw [insE_length]
    omega
  · rcases (insE_mem _ _ _).1 he with rfl | he
    · exact hl
    · exact h.light e he
  · obtain ⟨y, hy, hk3⟩ := hk2
    unfold insR at hy
    rcases List.mem_append.1 hy with c | c
    · exact .inl ⟨y, List.mem_of_mem_take c, hk3⟩
    · rcases List.mem_cons.1 c with c | c
      · subst c
        exact .inr (hov k hk3)
      · exact .inl ⟨y, List.mem_of_mem_drop c, hk3⟩
end Go.Proofs.YtaodjnkjjmhecaaGreatDoor
