/- Contracts of layer 14: which cookies are over, and go with a request; the domain and the path of a cookie. -/
import Derived.Test.YthefieemngmnjaaGreatDoorLibAM
import Derived.Test.YthefieemngmnjaaGreatDoorLibAJ
import Derived.Test.YthefieemngmnjaaGreatDoorLibAG
import Derived.Test.YthefieemngmnjaaGreatDoorAttrsProg
namespace Go.Proofs.YthefieemngmnjaaGreatDoor
open Go.RowKit
set_option linter.unusedVariables false

set_option maxRecDepth 100000 in
theorem overC (va : List UInt8) (ho se ht pe : Bool) (ex cr ac now : Int) (w : World) :
    Calls Tryz.prog 37 #[.agg #[.string (str va), .bool ho, .bool se, .bool ht, .bool pe, .int .i64 ex, .int .i64 cr, .int .i64 ac], .int .i64 now] w fun e w' => e = .returned (.bool (pe && decide (ex ≤ now))) ∧ Below w.heap.size w w' := by
  have hb1 := below_alloc w (.cells #[.string (str va), .bool ho, .bool se, .bool ht, .bool pe, .int .i64 ex, .int .i64 cr, .int .i64 ac] 32)
  have o1 := ObjAt.new w #[.string (str va), .bool ho, .bool se, .bool ht, .bool pe, .int .i64 ex, .int .i64 cr, .int .i64 ac] 32
  have c4 := o1.cell 4 rfl; have c5 := o1.cell 5 rfl; clear o1
  cases pe with
  | false =>
    go_enter Tryz.func37, Tryz.ntmps37
    go_wp2
    go_ret
    exact ⟨rfl, hb1⟩
  | true =>
    rw [Bool.true_and]
    by_cases h : ex ≤ now
    · rw [decide_eq_true h]
      go_enter Tryz.func37, Tryz.ntmps37
      go_wp2
      go_ret
      exact ⟨rfl, hb1⟩
    · rw [decide_eq_false h]
      go_enter Tryz.func37, Tryz.ntmps37
      go_wp2
      go_ret
      exact ⟨rfl, hb1⟩

set_option maxHeartbeats 2000000 in
set_option maxRecDepth 100000 in
theorem isForC (nm dm pa va : List UInt8) (ho se ht pe : Bool) (ex cr ac : Int) (h : List UInt8) (w : World) (l1 : dm.length ≤ 100000) (l2 : h.length ≤ 100000) (hT : PTab Tryz.prog w) :
    Calls Tryz.prog 38 #[.agg #[.string (str nm), .string (str dm), .string (str pa), .string (str va), .bool ho, .bool se, .bool ht, .bool pe, .int .i64 ex, .int .i64 cr, .int .i64 ac], .string (str h)] w fun e w' => e = .returned (.bool (dm == h || (!ho && matchB h dm))) ∧ Below w.heap.size w w' := by
  have hb1 := below_alloc w (.cells #[.string (str nm), .string (str dm), .string (str pa), .string (str va), .bool ho, .bool se, .bool ht, .bool pe, .int .i64 ex, .int .i64 cr, .int .i64 ac] 34)
  have o1 := ObjAt.new w #[.string (str nm), .string (str dm), .string (str pa), .string (str va), .bool ho, .bool se, .bool ht, .bool pe, .int .i64 ex, .int .i64 cr, .int .i64 ac] 34
  have HM := matchC h dm h.length dm.length _ rfl (by unfold maxLen; omega) rfl (by unfold maxLen; omega) (hT.below hb1)
  have c1 := o1.cell 1 rfl; have c4 := o1.cell 4 rfl; clear o1
  have hk := str_toList
  generalize matchB h dm = m at *
  clear l1 l2 hT
  cases hq : dm == h with
  | true =>
    go_enter Tryz.func38, Tryz.ntmps38
    go_wp2_with (first
      | (go_at_call 53; (with_reducible refine HM.mono ?_); rintro e w1 ⟨rfl, hx⟩; have hb2 := hb1.trans (hx.mono hb1.size); clear hx))
    go_ret
    exact ⟨rfl, hb1⟩
  | false =>
    cases ho with
    | true =>
      go_enter Tryz.func38, Tryz.ntmps38
      go_wp2_with (first
        | (go_at_call 53; (with_reducible refine HM.mono ?_); rintro e w1 ⟨rfl, hx⟩; have hb2 := hb1.trans (hx.mono hb1.size); clear hx))
      go_ret
      exact ⟨rfl, hb1⟩
    | false =>
      go_enter Tryz.func38, Tryz.ntmps38
      go_wp2_with (first
        | (go_at_call 53; (with_reducible refine HM.mono ?_); rintro e w1 ⟨rfl, hx⟩; have hb2 := hb1.trans (hx.mono hb1.size); clear hx))
      go_ret
      exact ⟨rfl, hb2⟩

set_option maxHeartbeats 8000000 in
set_option maxRecDepth 100000 in
theorem fitsC14 (nm dm pa va : List UInt8) (ho se ht pe : Bool) (ex cr ac : Int) (h p : List UInt8) (sec script : Bool) (now : Int) (w : World) (l1 : dm.length ≤ 100000) (l2 : pa.length ≤ 100000) (l3 : h.length ≤ 100000) (l4 : p.length ≤ 100000) (hT : PTab Tryz.prog w) :
    Calls Tryz.prog 16 #[.agg #[.string (str nm), .string (str dm), .string (str pa), .string (str va), .bool ho, .bool se, .bool ht, .bool pe, .int .i64 ex, .int .i64 cr, .int .i64 ac], .agg #[.string (str h), .string (str p), .bool sec, .bool script], .int .i64 now] w fun e w' => e = .returned (.bool (fitsX ⟨nm, dm, pa, va, ho, se, ht, pe, ex, cr, ac⟩ h p sec script now)) ∧ Below w.heap.size w w' := by
  obtain ⟨o1, o2, o3, hb1⟩ := three_new w #[.string (str nm), .string (str dm), .string (str pa), .string (str va), .bool ho, .bool se, .bool ht, .bool pe, .int .i64 ex, .int .i64 cr, .int .i64 ac] #[.string (str h), .string (str p), .bool sec, .bool script] #[.string (str va), .bool ho, .bool se, .bool ht, .bool pe, .int .i64 ex, .int .i64 cr, .int .i64 ac] 34 24 32
  have hT1 := hT.below hb1
  have HO := fun w => overC va ho se ht pe ex cr ac now w
  have HF := fun w (t : PTab Tryz.prog w) => isForC nm dm pa va ho se ht pe ex cr ac h w l1 l3 t
  have HM := fun w => pathMatchC p pa p.length pa.length w rfl l4 rfl l2
  have hfit : fitsX ⟨nm, dm, pa, va, ho, se, ht, pe, ex, cr, ac⟩ h p sec script now = (!(pe && decide (ex ≤ now)) && (!((se && !sec) || (ht && script)) && ((dm == h || (!ho && matchB h dm)) && fitP p pa))) := by
    unfold fitsX overX
    dsimp only
    rw [show (h == dm) = (dm == h) from Bool.beq_comm]
    generalize (pe && decide (ex ≤ now)) = a1
    generalize fitP p pa = a2
    generalize (dm == h) = a3
    generalize matchB h dm = a4
    cases a1 <;> cases se <;> cases sec <;> cases ht <;> cases script <;> cases a2 <;> cases ho <;> cases a3 <;> cases a4 <;> rfl
  rw [hfit]
  clear hfit l1 l2 l3 l4 hT
  generalize (pe && decide (ex ≤ now)) = ov at *
  generalize (dm == h || (!ho && matchB h dm)) = fr at *
  generalize fitP p pa = ft at *
  have a0 := o1.cell 0 rfl; have a1 := o1.cell 1 rfl; have a2 := o1.cell 2 rfl; have a3 := o1.cell 3 rfl; have a4 := o1.cell 4 rfl; have a5 := o1.cell 5 rfl; have a6 := o1.cell 6 rfl; have a7 := o1.cell 7 rfl; have a8 := o1.cell 8 rfl; have a9 := o1.cell 9 rfl; have a10 := o1.cell 10 rfl; have b0 := o2.cell 0 rfl; have b1 := o2.cell 1 rfl; have b2 := o2.cell 2 rfl; have b3 := o2.cell 3 rfl; have c0 := o3.cell 0 rfl; have c1 := o3.cell 1 rfl; have c2 := o3.cell 2 rfl; have c3 := o3.cell 3 rfl; have c4 := o3.cell 4 rfl; have c5 := o3.cell 5 rfl; have c6 := o3.cell 6 rfl; have c7 := o3.cell 7 rfl
  cases ov with
  | true =>
    go_enter Tryz.func16, Tryz.ntmps16
    go_wp2_with (first
      | (go_at_call 37; (with_reducible refine (HO _).mono ?_); rintro e w1 ⟨rfl, hx⟩; replace o1 := o1.below hx o1.lt; replace o2 := o2.below hx o2.lt; replace o3 := o3.below hx o3.lt; have hb2 := hb1.trans (hx.mono hb1.size); have hT2 := hT1.below hx; clear hx a0 a1 a2 a3 a4 a5 a6 a7 a8 a9 a10 b0 b1 b2 b3 c0 c1 c2 c3 c4 c5 c6 c7; have a0 := o1.cell 0 rfl; have a1 := o1.cell 1 rfl; have a2 := o1.cell 2 rfl; have a3 := o1.cell 3 rfl; have a4 := o1.cell 4 rfl; have a5 := o1.cell 5 rfl; have a6 := o1.cell 6 rfl; have a7 := o1.cell 7 rfl; have a8 := o1.cell 8 rfl; have a9 := o1.cell 9 rfl; have a10 := o1.cell 10 rfl; have b0 := o2.cell 0 rfl; have b1 := o2.cell 1 rfl; have b2 := o2.cell 2 rfl; have b3 := o2.cell 3 rfl; have c0 := o3.cell 0 rfl; have c1 := o3.cell 1 rfl; have c2 := o3.cell 2 rfl; have c3 := o3.cell 3 rfl; have c4 := o3.cell 4 rfl; have c5 := o3.cell 5 rfl; have c6 := o3.cell 6 rfl; have c7 := o3.cell 7 rfl)
      | (go_at_call 38; (with_reducible refine (HF _ hT2).mono ?_); rintro e w2 ⟨rfl, hx⟩; replace o1 := o1.below hx o1.lt; replace o2 := o2.below hx o2.lt; have hb3 := hb2.trans (hx.mono hb2.size); clear hx a0 a1 a2 a3 a4 a5 a6 a7 a8 a9 a10 b0 b1 b2 b3 c0 c1 c2 c3 c4 c5 c6 c7; have a2 := o1.cell 2 rfl; have b1 := o2.cell 1 rfl)
      | (go_at_call 39; (with_reducible refine (HM _).mono ?_); rintro e w3 ⟨rfl, hx⟩; have hb4 := hb3.trans (hx.mono hb3.size); clear hx))
    go_ret
    exact ⟨rfl, by first | exact hb4 | exact hb3 | exact hb2⟩
  | false =>
    cases se with
    | false =>
      cases ht with
      | false =>
        cases fr with
        | false =>
          go_enter Tryz.func16, Tryz.ntmps16
          go_wp2_with (first
            | (go_at_call 37; (with_reducible refine (HO _).mono ?_); rintro e w1 ⟨rfl, hx⟩; replace o1 := o1.below hx o1.lt; replace o2 := o2.below hx o2.lt; replace o3 := o3.below hx o3.lt; have hb2 := hb1.trans (hx.mono hb1.size); have hT2 := hT1.below hx; clear hx a0 a1 a2 a3 a4 a5 a6 a7 a8 a9 a10 b0 b1 b2 b3 c0 c1 c2 c3 c4 c5 c6 c7; have a0 := o1.cell 0 rfl; have a1 := o1.cell 1 rfl; have a2 := o1.cell 2 rfl; have a3 := o1.cell 3 rfl; have a4 := o1.cell 4 rfl; have a5 := o1.cell 5 rfl; have a6 := o1.cell 6 rfl; have a7 := o1.cell 7 rfl; have a8 := o1.cell 8 rfl; have a9 := o1.cell 9 rfl; have a10 := o1.cell 10 rfl; have b0 := o2.cell 0 rfl; have b1 := o2.cell 1 rfl; have b2 := o2.cell 2 rfl; have b3 := o2.cell 3 rfl; have c0 := o3.cell 0 rfl; have c1 := o3.cell 1 rfl; have c2 := o3.cell 2 rfl; have c3 := o3.cell 3 rfl; have c4 := o3.cell 4 rfl; have c5 := o3.cell 5 rfl; have c6 := o3.cell 6 rfl; have c7 := o3.cell 7 rfl)
            | (go_at_call 38; (with_reducible refine (HF _ hT2).mono ?_); rintro e w2 ⟨rfl, hx⟩; replace o1 := o1.below hx o1.lt; replace o2 := o2.below hx o2.lt; have hb3 := hb2.trans (hx.mono hb2.size); clear hx a0 a1 a2 a3 a4 a5 a6 a7 a8 a9 a10 b0 b1 b2 b3 c0 c1 c2 c3 c4 c5 c6 c7; have a2 := o1.cell 2 rfl; have b1 := o2.cell 1 rfl)
            | (go_at_call 39; (with_reducible refine (HM _).mono ?_); rintro e w3 ⟨rfl, hx⟩; have hb4 := hb3.trans (hx.mono hb3.size); clear hx))
          go_ret
          exact ⟨rfl, by first | exact hb4 | exact hb3 | exact hb2⟩
        | true =>
          go_enter Tryz.func16, Tryz.ntmps16
          go_wp2_with (first
            | (go_at_call 37; (with_reducible refine (HO _).mono ?_); rintro e w1 ⟨rfl, hx⟩; replace o1 := o1.below hx o1.lt; replace o2 := o2.below hx o2.lt; replace o3 := o3.below hx o3.lt; have hb2 := hb1.trans (hx.mono hb1.size); have hT2 := hT1.below hx; clear hx a0 a1 a2 a3 a4 a5 a6 a7 a8 a9 a10 b0 b1 b2 b3 c0 c1 c2 c3 c4 c5 c6 c7; have a0 := o1.cell 0 rfl; have a1 := o1.cell 1 rfl; have a2 := o1.cell 2 rfl; have a3 := o1.cell 3 rfl; have a4 := o1.cell 4 rfl; have a5 := o1.cell 5 rfl; have a6 := o1.cell 6 rfl; have a7 := o1.cell 7 rfl; have a8 := o1.cell 8 rfl; have a9 := o1.cell 9 rfl; have a10 := o1.cell 10 rfl; have b0 := o2.cell 0 rfl; have b1 := o2.cell 1 rfl; have b2 := o2.cell 2 rfl; have b3 := o2.cell 3 rfl; have c0 := o3.cell 0 rfl; have c1 := o3.cell 1 rfl; have c2 := o3.cell 2 rfl; have c3 := o3.cell 3 rfl; have c4 := o3.cell 4 rfl; have c5 := o3.cell 5 rfl; have c6 := o3.cell 6 rfl; have c7 := o3.cell 7 rfl)
            | (go_at_call 38; (with_reducible refine (HF _ hT2).mono ?_); rintro e w2 ⟨rfl, hx⟩; replace o1 := o1.below hx o1.lt; replace o2 := o2.below hx o2.lt; have hb3 := hb2.trans (hx.mono hb2.size); clear hx a0 a1 a2 a3 a4 a5 a6 a7 a8 a9 a10 b0 b1 b2 b3 c0 c1 c2 c3 c4 c5 c6 c7; have a2 := o1.cell 2 rfl; have b1 := o2.cell 1 rfl)
            | (go_at_call 39; (with_reducible refine (HM _).mono ?_); rintro e w3 ⟨rfl, hx⟩; have hb4 := hb3.trans (hx.mono hb3.size); clear hx))
          go_ret
          exact ⟨rfl, by first | exact hb4 | exact hb3 | exact hb2⟩
      | true =>
        cases script with
        | true =>
          go_enter Tryz.func16, Tryz.ntmps16
          go_wp2_with (first
            | (go_at_call 37; (with_reducible refine (HO _).mono ?_); rintro e w1 ⟨rfl, hx⟩; replace o1 := o1.below hx o1.lt; replace o2 := o2.below hx o2.lt; replace o3 := o3.below hx o3.lt; have hb2 := hb1.trans (hx.mono hb1.size); have hT2 := hT1.below hx; clear hx a0 a1 a2 a3 a4 a5 a6 a7 a8 a9 a10 b0 b1 b2 b3 c0 c1 c2 c3 c4 c5 c6 c7; have a0 := o1.cell 0 rfl; have a1 := o1.cell 1 rfl; have a2 := o1.cell 2 rfl; have a3 := o1.cell 3 rfl; have a4 := o1.cell 4 rfl; have a5 := o1.cell 5 rfl; have a6 := o1.cell 6 rfl; have a7 := o1.cell 7 rfl; have a8 := o1.cell 8 rfl; have a9 := o1.cell 9 rfl; have a10 := o1.cell 10 rfl; have b0 := o2.cell 0 rfl; have b1 := o2.cell 1 rfl; have b2 := o2.cell 2 rfl; have b3 := o2.cell 3 rfl; have c0 := o3.cell 0 rfl; have c1 := o3.cell 1 rfl; have c2 := o3.cell 2 rfl; have c3 := o3.cell 3 rfl; have c4 := o3.cell 4 rfl; have c5 := o3.cell 5 rfl; have c6 := o3.cell 6 rfl; have c7 := o3.cell 7 rfl)
            | (go_at_call 38; (with_reducible refine (HF _ hT2).mono ?_); rintro e w2 ⟨rfl, hx⟩; replace o1 := o1.below hx o1.lt; replace o2 := o2.below hx o2.lt; have hb3 := hb2.trans (hx.mono hb2.size); clear hx a0 a1 a2 a3 a4 a5 a6 a7 a8 a9 a10 b0 b1 b2 b3 c0 c1 c2 c3 c4 c5 c6 c7; have a2 := o1.cell 2 rfl; have b1 := o2.cell 1 rfl)
            | (go_at_call 39; (with_reducible refine (HM _).mono ?_); rintro e w3 ⟨rfl, hx⟩; have hb4 := hb3.trans (hx.mono hb3.size); clear hx))
          go_ret
          exact ⟨rfl, by first | exact hb4 | exact hb3 | exact hb2⟩
        | false =>
          cases fr with
          | false =>
            go_enter Tryz.func16, Tryz.ntmps16
            go_wp2_with (first
              | (go_at_call 37; (with_reducible refine (HO _).mono ?_); rintro e w1 ⟨rfl, hx⟩; replace o1 := o1.below hx o1.lt; replace o2 := o2.below hx o2.lt; replace o3 := o3.below hx o3.lt; have hb2 := hb1.trans (hx.mono hb1.size); have hT2 := hT1.below hx; clear hx a0 a1 a2 a3 a4 a5 a6 a7 a8 a9 a10 b0 b1 b2 b3 c0 c1 c2 c3 c4 c5 c6 c7; have a0 := o1.cell 0 rfl; have a1 := o1.cell 1 rfl; have a2 := o1.cell 2 rfl; have a3 := o1.cell 3 rfl; have a4 := o1.cell 4 rfl; have a5 := o1.cell 5 rfl; have a6 := o1.cell 6 rfl; have a7 := o1.cell 7 rfl; have a8 := o1.cell 8 rfl; have a9 := o1.cell 9 rfl; have a10 := o1.cell 10 rfl; have b0 := o2.cell 0 rfl; have b1 := o2.cell 1 rfl; have b2 := o2.cell 2 rfl; have b3 := o2.cell 3 rfl; have c0 := o3.cell 0 rfl; have c1 := o3.cell 1 rfl; have c2 := o3.cell 2 rfl; have c3 := o3.cell 3 rfl; have c4 := o3.cell 4 rfl; have c5 := o3.cell 5 rfl; have c6 := o3.cell 6 rfl; have c7 := o3.cell 7 rfl)
              | (go_at_call 38; (with_reducible refine (HF _ hT2).mono ?_); rintro e w2 ⟨rfl, hx⟩; replace o1 := o1.below hx o1.lt; replace o2 := o2.below hx o2.lt; have hb3 := hb2.trans (hx.mono hb2.size); clear hx a0 a1 a2 a3 a4 a5 a6 a7 a8 a9 a10 b0 b1 b2 b3 c0 c1 c2 c3 c4 c5 c6 c7; have a2 := o1.cell 2 rfl; have b1 := o2.cell 1 rfl)
              | (go_at_call 39; (with_reducible refine (HM _).mono ?_); rintro e w3 ⟨rfl, hx⟩; have hb4 := hb3.trans (hx.mono hb3.size); clear hx))
            go_ret
            exact ⟨rfl, by first | exact hb4 | exact hb3 | exact hb2⟩
          | true =>
            go_enter Tryz.func16, Tryz.ntmps16
            go_wp2_with (first
              | (go_at_call 37; (with_reducible refine (HO _).mono ?_); rintro e w1 ⟨rfl, hx⟩; replace o1 := o1.below hx o1.lt; replace o2 := o2.below hx o2.lt; replace o3 := o3.below hx o3.lt; have hb2 := hb1.trans (hx.mono hb1.size); have hT2 := hT1.below hx; clear hx a0 a1 a2 a3 a4 a5 a6 a7 a8 a9 a10 b0 b1 b2 b3 c0 c1 c2 c3 c4 c5 c6 c7; have a0 := o1.cell 0 rfl; have a1 := o1.cell 1 rfl; have a2 := o1.cell 2 rfl; have a3 := o1.cell 3 rfl; have a4 := o1.cell 4 rfl; have a5 := o1.cell 5 rfl; have a6 := o1.cell 6 rfl; have a7 := o1.cell 7 rfl; have a8 := o1.cell 8 rfl; have a9 := o1.cell 9 rfl; have a10 := o1.cell 10 rfl; have b0 := o2.cell 0 rfl; have b1 := o2.cell 1 rfl; have b2 := o2.cell 2 rfl; have b3 := o2.cell 3 rfl; have c0 := o3.cell 0 rfl; have c1 := o3.cell 1 rfl; have c2 := o3.cell 2 rfl; have c3 := o3.cell 3 rfl; have c4 := o3.cell 4 rfl; have c5 := o3.cell 5 rfl; have c6 := o3.cell 6 rfl; have c7 := o3.cell 7 rfl)
              | (go_at_call 38; (with_reducible refine (HF _ hT2).mono ?_); rintro e w2 ⟨rfl, hx⟩; replace o1 := o1.below hx o1.lt; replace o2 := o2.below hx o2.lt; have hb3 := hb2.trans (hx.mono hb2.size); clear hx a0 a1 a2 a3 a4 a5 a6 a7 a8 a9 a10 b0 b1 b2 b3 c0 c1 c2 c3 c4 c5 c6 c7; have a2 := o1.cell 2 rfl; have b1 := o2.cell 1 rfl)
              | (go_at_call 39; (with_reducible refine (HM _).mono ?_); rintro e w3 ⟨rfl, hx⟩; have hb4 := hb3.trans (hx.mono hb3.size); clear hx))
            go_ret
            exact ⟨rfl, by first | exact hb4 | exact hb3 | exact hb2⟩
    | true =>
      cases sec with
      | false =>
        go_enter Tryz.func16, Tryz.ntmps16
        go_wp2_with (first
          | (go_at_call 37; (with_reducible refine (HO _).mono ?_); rintro e w1 ⟨rfl, hx⟩; replace o1 := o1.below hx o1.lt; replace o2 := o2.below hx o2.lt; replace o3 := o3.below hx o3.lt; have hb2 := hb1.trans (hx.mono hb1.size); have hT2 := hT1.below hx; clear hx a0 a1 a2 a3 a4 a5 a6 a7 a8 a9 a10 b0 b1 b2 b3 c0 c1 c2 c3 c4 c5 c6 c7; have a0 := o1.cell 0 rfl; have a1 := o1.cell 1 rfl; have a2 := o1.cell 2 rfl; have a3 := o1.cell 3 rfl; have a4 := o1.cell 4 rfl; have a5 := o1.cell 5 rfl; have a6 := o1.cell 6 rfl; have a7 := o1.cell 7 rfl; have a8 := o1.cell 8 rfl; have a9 := o1.cell 9 rfl; have a10 := o1.cell 10 rfl; have b0 := o2.cell 0 rfl; have b1 := o2.cell 1 rfl; have b2 := o2.cell 2 rfl; have b3 := o2.cell 3 rfl; have c0 := o3.cell 0 rfl; have c1 := o3.cell 1 rfl; have c2 := o3.cell 2 rfl; have c3 := o3.cell 3 rfl; have c4 := o3.cell 4 rfl; have c5 := o3.cell 5 rfl; have c6 := o3.cell 6 rfl; have c7 := o3.cell 7 rfl)
          | (go_at_call 38; (with_reducible refine (HF _ hT2).mono ?_); rintro e w2 ⟨rfl, hx⟩; replace o1 := o1.below hx o1.lt; replace o2 := o2.below hx o2.lt; have hb3 := hb2.trans (hx.mono hb2.size); clear hx a0 a1 a2 a3 a4 a5 a6 a7 a8 a9 a10 b0 b1 b2 b3 c0 c1 c2 c3 c4 c5 c6 c7; have a2 := o1.cell 2 rfl; have b1 := o2.cell 1 rfl)
          | (go_at_call 39; (with_reducible refine (HM _).mono ?_); rintro e w3 ⟨rfl, hx⟩; have hb4 := hb3.trans (hx.mono hb3.size); clear hx))
        go_ret
        exact ⟨rfl, by first | exact hb4 | exact hb3 | exact hb2⟩
      | true =>
        cases ht with
        | false =>
          cases fr with
          | false =>
            go_enter Tryz.func16, Tryz.ntmps16
            go_wp2_with (first
              | (go_at_call 37; (with_reducible refine (HO _).mono ?_); rintro e w1 ⟨rfl, hx⟩; replace o1 := o1.below hx o1.lt; replace o2 := o2.below hx o2.lt; replace o3 := o3.below hx o3.lt; have hb2 := hb1.trans (hx.mono hb1.size); have hT2 := hT1.below hx; clear hx a0 a1 a2 a3 a4 a5 a6 a7 a8 a9 a10 b0 b1 b2 b3 c0 c1 c2 c3 c4 c5 c6 c7; have a0 := o1.cell 0 rfl; have a1 := o1.cell 1 rfl; have a2 := o1.cell 2 rfl; have a3 := o1.cell 3 rfl; have a4 := o1.cell 4 rfl; have a5 := o1.cell 5 rfl; have a6 := o1.cell 6 rfl; have a7 := o1.cell 7 rfl; have a8 := o1.cell 8 rfl; have a9 := o1.cell 9 rfl; have a10 := o1.cell 10 rfl; have b0 := o2.cell 0 rfl; have b1 := o2.cell 1 rfl; have b2 := o2.cell 2 rfl; have b3 := o2.cell 3 rfl; have c0 := o3.cell 0 rfl; have c1 := o3.cell 1 rfl; have c2 := o3.cell 2 rfl; have c3 := o3.cell 3 rfl; have c4 := o3.cell 4 rfl; have c5 := o3.cell 5 rfl; have c6 := o3.cell 6 rfl; have c7 := o3.cell 7 rfl)
              | (go_at_call 38; (with_reducible refine (HF _ hT2).mono ?_); rintro e w2 ⟨rfl, hx⟩; replace o1 := o1.below hx o1.lt; replace o2 := o2.below hx o2.lt; have hb3 := hb2.trans (hx.mono hb2.size); clear hx a0 a1 a2 a3 a4 a5 a6 a7 a8 a9 a10 b0 b1 b2 b3 c0 c1 c2 c3 c4 c5 c6 c7; have a2 := o1.cell 2 rfl; have b1 := o2.cell 1 rfl)
              | (go_at_call 39; (with_reducible refine (HM _).mono ?_); rintro e w3 ⟨rfl, hx⟩; have hb4 := hb3.trans (hx.mono hb3.size); clear hx))
            go_ret
            exact ⟨rfl, by first | exact hb4 | exact hb3 | exact hb2⟩
          | true =>
            go_enter Tryz.func16, Tryz.ntmps16
            go_wp2_with (first
              | (go_at_call 37; (with_reducible refine (HO _).mono ?_); rintro e w1 ⟨rfl, hx⟩; replace o1 := o1.below hx o1.lt; replace o2 := o2.below hx o2.lt; replace o3 := o3.below hx o3.lt; have hb2 := hb1.trans (hx.mono hb1.size); have hT2 := hT1.below hx; clear hx a0 a1 a2 a3 a4 a5 a6 a7 a8 a9 a10 b0 b1 b2 b3 c0 c1 c2 c3 c4 c5 c6 c7; have a0 := o1.cell 0 rfl; have a1 := o1.cell 1 rfl; have a2 := o1.cell 2 rfl; have a3 := o1.cell 3 rfl; have a4 := o1.cell 4 rfl; have a5 := o1.cell 5 rfl; have a6 := o1.cell 6 rfl; have a7 := o1.cell 7 rfl; have a8 := o1.cell 8 rfl; have a9 := o1.cell 9 rfl; have a10 := o1.cell 10 rfl; have b0 := o2.cell 0 rfl; have b1 := o2.cell 1 rfl; have b2 := o2.cell 2 rfl; have b3 := o2.cell 3 rfl; have c0 := o3.cell 0 rfl; have c1 := o3.cell 1 rfl; have c2 := o3.cell 2 rfl; have c3 := o3.cell 3 rfl; have c4 := o3.cell 4 rfl; have c5 := o3.cell 5 rfl; have c6 := o3.cell 6 rfl; have c7 := o3.cell 7 rfl)
              | (go_at_call 38; (with_reducible refine (HF _ hT2).mono ?_); rintro e w2 ⟨rfl, hx⟩; replace o1 := o1.below hx o1.lt; replace o2 := o2.below hx o2.lt; have hb3 := hb2.trans (hx.mono hb2.size); clear hx a0 a1 a2 a3 a4 a5 a6 a7 a8 a9 a10 b0 b1 b2 b3 c0 c1 c2 c3 c4 c5 c6 c7; have a2 := o1.cell 2 rfl; have b1 := o2.cell 1 rfl)
              | (go_at_call 39; (with_reducible refine (HM _).mono ?_); rintro e w3 ⟨rfl, hx⟩; have hb4 := hb3.trans (hx.mono hb3.size); clear hx))
            go_ret
            exact ⟨rfl, by first | exact hb4 | exact hb3 | exact hb2⟩
        | true =>
          cases script with
          | true =>
            go_enter Tryz.func16, Tryz.ntmps16
            go_wp2_with (first
              | (go_at_call 37; (with_reducible refine (HO _).mono ?_); rintro e w1 ⟨rfl, hx⟩; replace o1 := o1.below hx o1.lt; replace o2 := o2.below hx o2.lt; replace o3 := o3.below hx o3.lt; have hb2 := hb1.trans (hx.mono hb1.size); have hT2 := hT1.below hx; clear hx a0 a1 a2 a3 a4 a5 a6 a7 a8 a9 a10 b0 b1 b2 b3 c0 c1 c2 c3 c4 c5 c6 c7; have a0 := o1.cell 0 rfl; have a1 := o1.cell 1 rfl; have a2 := o1.cell 2 rfl; have a3 := o1.cell 3 rfl; have a4 := o1.cell 4 rfl; have a5 := o1.cell 5 rfl; have a6 := o1.cell 6 rfl; have a7 := o1.cell 7 rfl; have a8 := o1.cell 8 rfl; have a9 := o1.cell 9 rfl; have a10 := o1.cell 10 rfl; have b0 := o2.cell 0 rfl; have b1 := o2.cell 1 rfl; have b2 := o2.cell 2 rfl; have b3 := o2.cell 3 rfl; have c0 := o3.cell 0 rfl; have c1 := o3.cell 1 rfl; have c2 := o3.cell 2 rfl; have c3 := o3.cell 3 rfl; have c4 := o3.cell 4 rfl; have c5 := o3.cell 5 rfl; have c6 := o3.cell 6 rfl; have c7 := o3.cell 7 rfl)
              | (go_at_call 38; (with_reducible refine (HF _ hT2).mono ?_); rintro e w2 ⟨rfl, hx⟩; replace o1 := o1.below hx o1.lt; replace o2 := o2.below hx o2.lt; have hb3 := hb2.trans (hx.mono hb2.size); clear hx a0 a1 a2 a3 a4 a5 a6 a7 a8 a9 a10 b0 b1 b2 b3 c0 c1 c2 c3 c4 c5 c6 c7; have a2 := o1.cell 2 rfl; have b1 := o2.cell 1 rfl)
              | (go_at_call 39; (with_reducible refine (HM _).mono ?_); rintro e w3 ⟨rfl, hx⟩; have hb4 := hb3.trans (hx.mono hb3.size); clear hx))
            go_ret
            exact ⟨rfl, by first | exact hb4 | exact hb3 | exact hb2⟩
          | false =>
            cases fr with
            | false =>
              go_enter Tryz.func16, Tryz.ntmps16
              go_wp2_with (first
                | (go_at_call 37; (with_reducible refine (HO _).mono ?_); rintro e w1 ⟨rfl, hx⟩; replace o1 := o1.below hx o1.lt; replace o2 := o2.below hx o2.lt; replace o3 := o3.below hx o3.lt; have hb2 := hb1.trans (hx.mono hb1.size); have hT2 := hT1.below hx; clear hx a0 a1 a2 a3 a4 a5 a6 a7 a8 a9 a10 b0 b1 b2 b3 c0 c1 c2 c3 c4 c5 c6 c7; have a0 := o1.cell 0 rfl; have a1 := o1.cell 1 rfl; have a2 := o1.cell 2 rfl; have a3 := o1.cell 3 rfl; have a4 := o1.cell 4 rfl; have a5 := o1.cell 5 rfl; have a6 := o1.cell 6 rfl; have a7 := o1.cell 7 rfl; have a8 := o1.cell 8 rfl; have a9 := o1.cell 9 rfl; have a10 := o1.cell 10 rfl; have b0 := o2.cell 0 rfl; have b1 := o2.cell 1 rfl; have b2 := o2.cell 2 rfl; have b3 := o2.cell 3 rfl; have c0 := o3.cell 0 rfl; have c1 := o3.cell 1 rfl; have c2 := o3.cell 2 rfl; have c3 := o3.cell 3 rfl; have c4 := o3.cell 4 rfl; have c5 := o3.cell 5 rfl; have c6 := o3.cell 6 rfl; have c7 := o3.cell 7 rfl)
                | (go_at_call 38; (with_reducible refine (HF _ hT2).mono ?_); rintro e w2 ⟨rfl, hx⟩; replace o1 := o1.below hx o1.lt; replace o2 := o2.below hx o2.lt; have hb3 := hb2.trans (hx.mono hb2.size); clear hx a0 a1 a2 a3 a4 a5 a6 a7 a8 a9 a10 b0 b1 b2 b3 c0 c1 c2 c3 c4 c5 c6 c7; have a2 := o1.cell 2 rfl; have b1 := o2.cell 1 rfl)
                | (go_at_call 39; (with_reducible refine (HM _).mono ?_); rintro e w3 ⟨rfl, hx⟩; have hb4 := hb3.trans (hx.mono hb3.size); clear hx))
              go_ret
              exact ⟨rfl, by first | exact hb4 | exact hb3 | exact hb2⟩
            | true =>
              go_enter Tryz.func16, Tryz.ntmps16
              go_wp2_with (first
                | (go_at_call 37; (with_reducible refine (HO _).mono ?_); rintro e w1 ⟨rfl, hx⟩; replace o1 := o1.below hx o1.lt; replace o2 := o2.below hx o2.lt; replace o3 := o3.below hx o3.lt; have hb2 := hb1.trans (hx.mono hb1.size); have hT2 := hT1.below hx; clear hx a0 a1 a2 a3 a4 a5 a6 a7 a8 a9 a10 b0 b1 b2 b3 c0 c1 c2 c3 c4 c5 c6 c7; have a0 := o1.cell 0 rfl; have a1 := o1.cell 1 rfl; have a2 := o1.cell 2 rfl; have a3 := o1.cell 3 rfl; have a4 := o1.cell 4 rfl; have a5 := o1.cell 5 rfl; have a6 := o1.cell 6 rfl; have a7 := o1.cell 7 rfl; have a8 := o1.cell 8 rfl; have a9 := o1.cell 9 rfl; have a10 := o1.cell 10 rfl; have b0 := o2.cell 0 rfl; have b1 := o2.cell 1 rfl; have b2 := o2.cell 2 rfl; have b3 := o2.cell 3 rfl; have c0 := o3.cell 0 rfl; have c1 := o3.cell 1 rfl; have c2 := o3.cell 2 rfl; have c3 := o3.cell 3 rfl; have c4 := o3.cell 4 rfl; have c5 := o3.cell 5 rfl; have c6 := o3.cell 6 rfl; have c7 := o3.cell 7 rfl)
                | (go_at_call 38; (with_reducible refine (HF _ hT2).mono ?_); rintro e w2 ⟨rfl, hx⟩; replace o1 := o1.below hx o1.lt; replace o2 := o2.below hx o2.lt; have hb3 := hb2.trans (hx.mono hb2.size); clear hx a0 a1 a2 a3 a4 a5 a6 a7 a8 a9 a10 b0 b1 b2 b3 c0 c1 c2 c3 c4 c5 c6 c7; have a2 := o1.cell 2 rfl; have b1 := o2.cell 1 rfl)
                | (go_at_call 39; (with_reducible refine (HM _).mono ?_); rintro e w3 ⟨rfl, hx⟩; have hb4 := hb3.trans (hx.mono hb3.size); clear hx))
              go_ret
              exact ⟨rfl, by first | exact hb4 | exact hb3 | exact hb2⟩

set_option maxHeartbeats 2000000 in
set_option maxRecDepth 100000 in
theorem pathOfC14 (p : List UInt8) (hexp hage hdom hpath : Bool) (ex ag : Int) (dm pa : List UInt8) (se ht : Bool) (w : World) (l1 : p.length ≤ 100000) :
    Calls Tryz.prog 23 #[.string (str p), .agg #[.bool hexp, .bool hage, .bool hdom, .bool hpath, .int .i64 ex, .int .i64 ag, .string (str dm), .string (str pa), .bool se, .bool ht]] w fun e w' => e = .returned (.string (str (if hpath = true then pa else defaultL p))) ∧ Below w.heap.size w w' := by
  have hb1 := below_alloc w (.cells #[.bool hexp, .bool hage, .bool hdom, .bool hpath, .int .i64 ex, .int .i64 ag, .string (str dm), .string (str pa), .bool se, .bool ht] 52)
  have o1 := ObjAt.new w #[.bool hexp, .bool hage, .bool hdom, .bool hpath, .int .i64 ex, .int .i64 ag, .string (str dm), .string (str pa), .bool se, .bool ht] 52
  have HD := fun w => pathDefaultC p p.length w rfl l1
  have c3 := o1.cell 3 rfl; have c7 := o1.cell 7 rfl; clear o1
  generalize defaultL p = d at *
  cases hpath with
  | true =>
    rw [if_pos rfl]
    go_enter Tryz.func23, Tryz.ntmps23
    go_wp2_with (first
      | (go_at_call 54; (with_reducible refine (HD _).mono ?_); rintro e w1 ⟨rfl, hx⟩; have hb2 := hb1.trans (hx.mono hb1.size); clear hx))
    go_ret
    exact ⟨rfl, hb1⟩
  | false =>
    rw [if_neg Bool.false_ne_true]
    go_enter Tryz.func23, Tryz.ntmps23
    go_wp2_with (first
      | (go_at_call 54; (with_reducible refine (HD _).mono ?_); rintro e w1 ⟨rfl, hx⟩; have hb2 := hb1.trans (hx.mono hb1.size); clear hx))
    go_ret
    exact ⟨rfl, hb2⟩

/-- The domain of a cookie that came from a host, whether it is for that host only, or why there is none. -/
def domY (R : List (List UInt8)) (h : List UInt8) (hdom : Bool) (dm : List UInt8) : List UInt8 × Bool × Int :=
  if hdom = false then (h, true, 0) else if publicR R dm = true then (if dm = h then (h, true, 0) else ([], false, 14)) else if matchB h dm = false then ([], false, 13) else (dm, false, 0)

set_option maxHeartbeats 2000000 in
set_option maxRecDepth 100000 in
theorem domainOfC (a : Option Addr) (len cap : Nat) (R : List (List UInt8)) (h : List UInt8) (hexp hage hdom hpath : Bool) (ex ag : Int) (dm pa : List UInt8) (se ht : Bool) (w : World) (hR : IsStrs w a len cap R) (hS : ∀ x ∈ R, x.length ≤ 1000) (l1 : h.length ≤ 100000) (l2 : dm.length ≤ 100000) (hT : PTab Tryz.prog w) :
    Calls Tryz.prog 22 #[.slice a len cap, .string (str h), .agg #[.bool hexp, .bool hage, .bool hdom, .bool hpath, .int .i64 ex, .int .i64 ag, .string (str dm), .string (str pa), .bool se, .bool ht]] w fun e w' => e = .returned (.tuple #[.string (str (domY R h hdom dm).1), .bool (domY R h hdom dm).2.1, .int .i64 (domY R h hdom dm).2.2]) ∧ Below w.heap.size w w' := by
  have hb1 := below_alloc w (.cells #[.bool hexp, .bool hage, .bool hdom, .bool hpath, .int .i64 ex, .int .i64 ag, .string (str dm), .string (str pa), .bool se, .bool ht] 52)
  have o1 := ObjAt.new w #[.bool hexp, .bool hage, .bool hdom, .bool hpath, .int .i64 ex, .int .i64 ag, .string (str dm), .string (str pa), .bool se, .bool ht] 52
  have HP := sufPublicC a len cap R dm dm.length _ (hR.below hb1) hS rfl l2 (hT.below hb1)
  have HM := fun w t => matchC h dm h.length dm.length w rfl (by unfold maxLen; omega) rfl (by unfold maxLen; omega) t
  have hT1 := hT.below hb1
  have hk := str_toList
  have e0 : str [] = ⟨#[]⟩ := rfl
  unfold domY
  generalize publicR R dm = pb at *
  generalize matchB h dm = m at *
  have c2 := o1.cell 2 rfl; have c6 := o1.cell 6 rfl
  clear hR hS l1 l2 hT
  cases hdom with
  | false =>
    rw [if_pos rfl]
    go_enter Tryz.func22, Tryz.ntmps22
    go_wp2
    go_ret3
    exact ⟨rfl, hb1⟩
  | true =>
  rw [if_neg (by decide)]
  cases pb with
  | true =>
    rw [if_pos rfl]
    by_cases hq : dm = h
    · subst hq
      rw [if_pos rfl]
      go_enter Tryz.func22, Tryz.ntmps22
      go_wp2_with (first
        | (go_at_call 52; (with_reducible refine HP.mono ?_); rintro e w1 ⟨rfl, hx⟩; have o2 := o1.below hx o1.lt; have hb2 := hb1.trans (hx.mono hb1.size); have hT2 := hT1.below hx; clear hx c2 c6; have c6 := o2.cell 6 rfl))
      go_ret3
      exact ⟨rfl, hb2⟩
    · have hq1 : (dm == h) = false := beq_eq_false_iff_ne.2 hq
      have hq2 : (dm != h) = true := by rw [bne, hq1]; rfl
      rw [if_neg hq]
      rw [e0]
      clear hq
      go_enter Tryz.func22, Tryz.ntmps22
      go_wp2_with (first
        | (go_at_call 52; (with_reducible refine HP.mono ?_); rintro e w1 ⟨rfl, hx⟩; have o2 := o1.below hx o1.lt; have hb2 := hb1.trans (hx.mono hb1.size); have hT2 := hT1.below hx; clear hx c2 c6; have c6 := o2.cell 6 rfl))
      go_ret3
      exact ⟨rfl, hb2⟩
  | false =>
  rw [if_neg (by decide)]
  cases m with
  | false =>
    rw [if_pos rfl, e0]
    go_enter Tryz.func22, Tryz.ntmps22
    go_wp2_with (first
      | (go_at_call 52; (with_reducible refine HP.mono ?_); rintro e w1 ⟨rfl, hx⟩; have o2 := o1.below hx o1.lt; have hb2 := hb1.trans (hx.mono hb1.size); have hT2 := hT1.below hx; clear hx c2 c6; have c6 := o2.cell 6 rfl)
      | (go_at_call 53; (with_reducible refine (HM _ hT2).mono ?_); rintro e w2 ⟨rfl, hx⟩; have o3 := o2.below hx o2.lt; have hb3 := hb2.trans (hx.mono hb2.size); clear hx c6; have c6 := o3.cell 6 rfl))
    go_ret3
    exact ⟨rfl, hb3⟩
  | true =>
    rw [if_neg (by decide)]
    go_enter Tryz.func22, Tryz.ntmps22
    go_wp2_with (first
      | (go_at_call 52; (with_reducible refine HP.mono ?_); rintro e w1 ⟨rfl, hx⟩; have o2 := o1.below hx o1.lt; have hb2 := hb1.trans (hx.mono hb1.size); have hT2 := hT1.below hx; clear hx c2 c6; have c6 := o2.cell 6 rfl)
      | (go_at_call 53; (with_reducible refine (HM _ hT2).mono ?_); rintro e w2 ⟨rfl, hx⟩; have o3 := o2.below hx o2.lt; have hb3 := hb2.trans (hx.mono hb2.size); clear hx c6; have c6 := o3.cell 6 rfl))
    go_ret3
    exact ⟨rfl, hb3⟩
end Go.Proofs.YthefieemngmnjaaGreatDoor
