/- Contracts of layer 14: which cookies are over, and go with a request. -/
import Derived.Test.YtjocnhkapiiblaaDoorLibAH
import Derived.Test.YtjocnhkapiiblaaDoorLibAE
import Derived.Test.YtjocnhkapiiblaaDoorLibAG
import Derived.BigQuiet
namespace Go.Proofs.YtjocnhkapiiblaaDoor
open Go.RowKit
set_option linter.unusedVariables false

set_option maxRecDepth 100000 in
theorem overC (va : List UInt8) (ho se ht pe : Bool) (ex cr ac now : Int) (w : World) :
    Calls Tryd.prog 24 #[.agg #[.string (str va), .bool ho, .bool se, .bool ht, .bool pe, .int .i64 ex, .int .i64 cr, .int .i64 ac], .int .i64 now] w fun e w' => e = .returned (.bool (pe && decide (ex ≤ now))) ∧ Below w.heap.size w w' := by
  have hb1 := below_alloc w (.cells #[.string (str va), .bool ho, .bool se, .bool ht, .bool pe, .int .i64 ex, .int .i64 cr, .int .i64 ac] 25)
  have o1 := ObjAt.new w #[.string (str va), .bool ho, .bool se, .bool ht, .bool pe, .int .i64 ex, .int .i64 cr, .int .i64 ac] 25
  have c4 := o1.cell 4 rfl; have c5 := o1.cell 5 rfl; clear o1
  cases pe with
  | false =>
    go_enter Tryd.func24, Tryd.ntmps24
    go_wp2
    go_ret
    exact ⟨rfl, hb1⟩
  | true =>
    rw [Bool.true_and]
    by_cases h : ex ≤ now
    · rw [decide_eq_true h]
      go_enter Tryd.func24, Tryd.ntmps24
      go_wp2
      go_ret
      exact ⟨rfl, hb1⟩
    · rw [decide_eq_false h]
      go_enter Tryd.func24, Tryd.ntmps24
      go_wp2
      go_ret
      exact ⟨rfl, hb1⟩

set_option maxHeartbeats 2000000 in
set_option maxRecDepth 100000 in
theorem isForC (nm dm pa va : List UInt8) (ho se ht pe : Bool) (ex cr ac : Int) (h : List UInt8) (w : World) (l1 : dm.length ≤ 100000) (l2 : h.length ≤ 100000) (hT : PTab Tryd.prog w) :
    Calls Tryd.prog 25 #[.agg #[.string (str nm), .string (str dm), .string (str pa), .string (str va), .bool ho, .bool se, .bool ht, .bool pe, .int .i64 ex, .int .i64 cr, .int .i64 ac], .string (str h)] w fun e w' => e = .returned (.bool (dm == h || (!ho && matchB h dm))) ∧ Below w.heap.size w w' := by
  have hb1 := below_alloc w (.cells #[.string (str nm), .string (str dm), .string (str pa), .string (str va), .bool ho, .bool se, .bool ht, .bool pe, .int .i64 ex, .int .i64 cr, .int .i64 ac] 27)
  have o1 := ObjAt.new w #[.string (str nm), .string (str dm), .string (str pa), .string (str va), .bool ho, .bool se, .bool ht, .bool pe, .int .i64 ex, .int .i64 cr, .int .i64 ac] 27
  have HM := matchC h dm h.length dm.length _ rfl (by unfold maxLen; omega) rfl (by unfold maxLen; omega) (hT.below hb1)
  have c1 := o1.cell 1 rfl; have c4 := o1.cell 4 rfl; clear o1
  have hk := str_toList
  generalize matchB h dm = m at *
  clear l1 l2 hT
  cases hq : dm == h with
  | true =>
    go_enter Tryd.func25, Tryd.ntmps25
    go_wp2_with (first
      | (go_at_call 30; (with_reducible refine HM.mono ?_); rintro e w1 ⟨rfl, hx⟩; have hb2 := hb1.trans (hx.mono hb1.size); clear hx))
    go_ret
    exact ⟨rfl, hb1⟩
  | false =>
    cases ho with
    | true =>
      go_enter Tryd.func25, Tryd.ntmps25
      go_wp2_with (first
        | (go_at_call 30; (with_reducible refine HM.mono ?_); rintro e w1 ⟨rfl, hx⟩; have hb2 := hb1.trans (hx.mono hb1.size); clear hx))
      go_ret
      exact ⟨rfl, hb1⟩
    | false =>
      go_enter Tryd.func25, Tryd.ntmps25
      go_wp2_with (first
        | (go_at_call 30; (with_reducible refine HM.mono ?_); rintro e w1 ⟨rfl, hx⟩; have hb2 := hb1.trans (hx.mono hb1.size); clear hx))
      go_ret
      exact ⟨rfl, hb2⟩

set_option maxHeartbeats 8000000 in
set_option maxRecDepth 100000 in
theorem fitsC14 (nm dm pa va : List UInt8) (ho se ht pe : Bool) (ex cr ac : Int) (h p : List UInt8) (sec script : Bool) (now : Int) (w : World) (l1 : dm.length ≤ 100000) (l2 : pa.length ≤ 100000) (l3 : h.length ≤ 100000) (l4 : p.length ≤ 100000) (hT : PTab Tryd.prog w) :
    Calls Tryd.prog 20 #[.agg #[.string (str nm), .string (str dm), .string (str pa), .string (str va), .bool ho, .bool se, .bool ht, .bool pe, .int .i64 ex, .int .i64 cr, .int .i64 ac], .agg #[.string (str h), .string (str p), .bool sec, .bool script], .int .i64 now] w fun e w' => e = .returned (.bool (fitsX ⟨nm, dm, pa, va, ho, se, ht, pe, ex, cr, ac⟩ h p sec script now)) ∧ Below w.heap.size w w' := by
  obtain ⟨o1, o2, o3, hb1⟩ := three_new w #[.string (str nm), .string (str dm), .string (str pa), .string (str va), .bool ho, .bool se, .bool ht, .bool pe, .int .i64 ex, .int .i64 cr, .int .i64 ac] #[.string (str h), .string (str p), .bool sec, .bool script] #[.string (str va), .bool ho, .bool se, .bool ht, .bool pe, .int .i64 ex, .int .i64 cr, .int .i64 ac] 27 36 25
  have hT1 := hT.below hb1
  have HO := fun w => overC va ho se ht pe ex cr ac now w
  have HF := fun w (t : PTab Tryd.prog w) => isForC nm dm pa va ho se ht pe ex cr ac h w l1 l3 t
  have HM := fun w => pathMatchC p pa p.length pa.length w rfl l4 rfl l2
  have hfit : fitsX ⟨nm, dm, pa, va, ho, se, ht, pe, ex, cr, ac⟩ h p sec script now = (!(pe && decide (ex ≤ now)) && (!((se && !sec) || (ht && script)) && ((dm == h || (!ho && matchB h dm)) && fitP p pa))) := by
    unfold fitsX overX
    dsimp only
    rw [show (h == dm) = (dm == h) from Bool.beq_comm]
    generalize (pe && decide (ex ≤ now)) = a1
    generalize fitP p pa = a2
    generalize (dm == h) = a3
    generalize matchB h dm = a4
    cases a1 <;> cases se <;> cases sec <;> cases ht <;> cases script <;> cases a2 <;> cases ho <;> cases a3 <;> cases a4 <;> rfl
  rw [hfit]
  clear hfit l1 l2 l3 l4 hT
  generalize (pe && decide (ex ≤ now)) = ov at *
  generalize (dm == h || (!ho && matchB h dm)) = fr at *
  generalize fitP p pa = ft at *
  have a0 := o1.cell 0 rfl; have a1 := o1.cell 1 rfl; have a2 := o1.cell 2 rfl; have a3 := o1.cell 3 rfl; have a4 := o1.cell 4 rfl; have a5 := o1.cell 5 rfl; have a6 := o1.cell 6 rfl; have a7 := o1.cell 7 rfl; have a8 := o1.cell 8 rfl; have a9 := o1.cell 9 rfl; have a10 := o1.cell 10 rfl; have b0 := o2.cell 0 rfl; have b1 := o2.cell 1 rfl; have b2 := o2.cell 2 rfl; have b3 := o2.cell 3 rfl; have c0 := o3.cell 0 rfl; have c1 := o3.cell 1 rfl; have c2 := o3.cell 2 rfl; have c3 := o3.cell 3 rfl; have c4 := o3.cell 4 rfl; have c5 := o3.cell 5 rfl; have c6 := o3.cell 6 rfl; have c7 := o3.cell 7 rfl
  cases ov with
  | true =>
    go_enter Tryd.func20, Tryd.ntmps20
    go_wp2_with (first
      | (go_at_call 24; (with_reducible refine (HO _).mono ?_); rintro e w1 ⟨rfl, hx⟩; replace o1 := o1.below hx o1.lt; replace o2 := o2.below hx o2.lt; replace o3 := o3.below hx o3.lt; have hb2 := hb1.trans (hx.mono hb1.size); have hT2 := hT1.below hx; clear hx a0 a1 a2 a3 a4 a5 a6 a7 a8 a9 a10 b0 b1 b2 b3 c0 c1 c2 c3 c4 c5 c6 c7; have a0 := o1.cell 0 rfl; have a1 := o1.cell 1 rfl; have a2 := o1.cell 2 rfl; have a3 := o1.cell 3 rfl; have a4 := o1.cell 4 rfl; have a5 := o1.cell 5 rfl; have a6 := o1.cell 6 rfl; have a7 := o1.cell 7 rfl; have a8 := o1.cell 8 rfl; have a9 := o1.cell 9 rfl; have a10 := o1.cell 10 rfl; have b0 := o2.cell 0 rfl; have b1 := o2.cell 1 rfl; have b2 := o2.cell 2 rfl; have b3 := o2.cell 3 rfl; have c0 := o3.cell 0 rfl; have c1 := o3.cell 1 rfl; have c2 := o3.cell 2 rfl; have c3 := o3.cell 3 rfl; have c4 := o3.cell 4 rfl; have c5 := o3.cell 5 rfl; have c6 := o3.cell 6 rfl; have c7 := o3.cell 7 rfl)
      | (go_at_call 25; (with_reducible refine (HF _ hT2).mono ?_); rintro e w2 ⟨rfl, hx⟩; replace o1 := o1.below hx o1.lt; replace o2 := o2.below hx o2.lt; have hb3 := hb2.trans (hx.mono hb2.size); clear hx a0 a1 a2 a3 a4 a5 a6 a7 a8 a9 a10 b0 b1 b2 b3 c0 c1 c2 c3 c4 c5 c6 c7; have a2 := o1.cell 2 rfl; have b1 := o2.cell 1 rfl)
      | (go_at_call 26; (with_reducible refine (HM _).mono ?_); rintro e w3 ⟨rfl, hx⟩; have hb4 := hb3.trans (hx.mono hb3.size); clear hx))
    go_ret
    exact ⟨rfl, by first | exact hb4 | exact hb3 | exact hb2⟩
  | false =>
    cases se with
    | false =>
      cases ht with
      | false =>
        cases fr with
        | false =>
          go_enter Tryd.func20, Tryd.ntmps20
          go_wp2_with (first
            | (go_at_call 24; (with_reducible refine (HO _).mono ?_); rintro e w1 ⟨rfl, hx⟩; replace o1 := o1.below hx o1.lt; replace o2 := o2.below hx o2.lt; replace o3 := o3.below hx o3.lt; have hb2 := hb1.trans (hx.mono hb1.size); have hT2 := hT1.below hx; clear hx a0 a1 a2 a3 a4 a5 a6 a7 a8 a9 a10 b0 b1 b2 b3 c0 c1 c2 c3 c4 c5 c6 c7; have a0 := o1.cell 0 rfl; have a1 := o1.cell 1 rfl; have a2 := o1.cell 2 rfl; have a3 := o1.cell 3 rfl; have a4 := o1.cell 4 rfl; have a5 := o1.cell 5 rfl; have a6 := o1.cell 6 rfl; have a7 := o1.cell 7 rfl; have a8 := o1.cell 8 rfl; have a9 := o1.cell 9 rfl; have a10 := o1.cell 10 rfl; have b0 := o2.cell 0 rfl; have b1 := o2.cell 1 rfl; have b2 := o2.cell 2 rfl; have b3 := o2.cell 3 rfl; have c0 := o3.cell 0 rfl; have c1 := o3.cell 1 rfl; have c2 := o3.cell 2 rfl; have c3 := o3.cell 3 rfl; have c4 := o3.cell 4 rfl; have c5 := o3.cell 5 rfl; have c6 := o3.cell 6 rfl; have c7 := o3.cell 7 rfl)
            | (go_at_call 25; (with_reducible refine (HF _ hT2).mono ?_); rintro e w2 ⟨rfl, hx⟩; replace o1 := o1.below hx o1.lt; replace o2 := o2.below hx o2.lt; have hb3 := hb2.trans (hx.mono hb2.size); clear hx a0 a1 a2 a3 a4 a5 a6 a7 a8 a9 a10 b0 b1 b2 b3 c0 c1 c2 c3 c4 c5 c6 c7; have a2 := o1.cell 2 rfl; have b1 := o2.cell 1 rfl)
            | (go_at_call 26; (with_reducible refine (HM _).mono ?_); rintro e w3 ⟨rfl, hx⟩; have hb4 := hb3.trans (hx.mono hb3.size); clear hx))
          go_ret
          exact ⟨rfl, by first | exact hb4 | exact hb3 | exact hb2⟩
        | true =>
          go_enter Tryd.func20, Tryd.ntmps20
          go_wp2_with (first
            | (go_at_call 24; (with_reducible refine (HO _).mono ?_); rintro e w1 ⟨rfl, hx⟩; replace o1 := o1.below hx o1.lt; replace o2 := o2.below hx o2.lt; replace o3 := o3.below hx o3.lt; have hb2 := hb1.trans (hx.mono hb1.size); have hT2 := hT1.below hx; clear hx a0 a1 a2 a3 a4 a5 a6 a7 a8 a9 a10 b0 b1 b2 b3 c0 c1 c2 c3 c4 c5 c6 c7; have a0 := o1.cell 0 rfl; have a1 := o1.cell 1 rfl; have a2 := o1.cell 2 rfl; have a3 := o1.cell 3 rfl; have a4 := o1.cell 4 rfl; have a5 := o1.cell 5 rfl; have a6 := o1.cell 6 rfl; have a7 := o1.cell 7 rfl; have a8 := o1.cell 8 rfl; have a9 := o1.cell 9 rfl; have a10 := o1.cell 10 rfl; have b0 := o2.cell 0 rfl; have b1 := o2.cell 1 rfl; have b2 := o2.cell 2 rfl; have b3 := o2.cell 3 rfl; have c0 := o3.cell 0 rfl; have c1 := o3.cell 1 rfl; have c2 := o3.cell 2 rfl; have c3 := o3.cell 3 rfl; have c4 := o3.cell 4 rfl; have c5 := o3.cell 5 rfl; have c6 := o3.cell 6 rfl; have c7 := o3.cell 7 rfl)
            | (go_at_call 25; (with_reducible refine (HF _ hT2).mono ?_); rintro e w2 ⟨rfl, hx⟩; replace o1 := o1.below hx o1.lt; replace o2 := o2.below hx o2.lt; have hb3 := hb2.trans (hx.mono hb2.size); clear hx a0 a1 a2 a3 a4 a5 a6 a7 a8 a9 a10 b0 b1 b2 b3 c0 c1 c2 c3 c4 c5 c6 c7; have a2 := o1.cell 2 rfl; have b1 := o2.cell 1 rfl)
            | (go_at_call 26; (with_reducible refine (HM _).mono ?_); rintro e w3 ⟨rfl, hx⟩; have hb4 := hb3.trans (hx.mono hb3.size); clear hx))
          go_ret
          exact ⟨rfl, by first | exact hb4 | exact hb3 | exact hb2⟩
      | true =>
        cases script with
        | true =>
          go_enter Tryd.func20, Tryd.ntmps20
          go_wp2_with (first
            | (go_at_call 24; (with_reducible refine (HO _).mono ?_); rintro e w1 ⟨rfl, hx⟩; replace o1 := o1.below hx o1.lt; replace o2 := o2.below hx o2.lt; replace o3 := o3.below hx o3.lt; have hb2 := hb1.trans (hx.mono hb1.size); have hT2 := hT1.below hx; clear hx a0 a1 a2 a3 a4 a5 a6 a7 a8 a9 a10 b0 b1 b2 b3 c0 c1 c2 c3 c4 c5 c6 c7; have a0 := o1.cell 0 rfl; have a1 := o1.cell 1 rfl; have a2 := o1.cell 2 rfl; have a3 := o1.cell 3 rfl; have a4 := o1.cell 4 rfl; have a5 := o1.cell 5 rfl; have a6 := o1.cell 6 rfl; have a7 := o1.cell 7 rfl; have a8 := o1.cell 8 rfl; have a9 := o1.cell 9 rfl; have a10 := o1.cell 10 rfl; have b0 := o2.cell 0 rfl; have b1 := o2.cell 1 rfl; have b2 := o2.cell 2 rfl; have b3 := o2.cell 3 rfl; have c0 := o3.cell 0 rfl; have c1 := o3.cell 1 rfl; have c2 := o3.cell 2 rfl; have c3 := o3.cell 3 rfl; have c4 := o3.cell 4 rfl; have c5 := o3.cell 5 rfl; have c6 := o3.cell 6 rfl; have c7 := o3.cell 7 rfl)
            | (go_at_call 25; (with_reducible refine (HF _ hT2).mono ?_); rintro e w2 ⟨rfl, hx⟩; replace o1 := o1.below hx o1.lt; replace o2 := o2.below hx o2.lt; have hb3 := hb2.trans (hx.mono hb2.size); clear hx a0 a1 a2 a3 a4 a5 a6 a7 a8 a9 a10 b0 b1 b2 b3 c0 c1 c2 c3 c4 c5 c6 c7; have a2 := o1.cell 2 rfl; have b1 := o2.cell 1 rfl)
            | (go_at_call 26; (with_reducible refine (HM _).mono ?_); rintro e w3 ⟨rfl, hx⟩; have hb4 := hb3.trans (hx.mono hb3.size); clear hx))
          go_ret
          exact ⟨rfl, by first | exact hb4 | exact hb3 | exact hb2⟩
        | false =>
          cases fr with
          | false =>
            go_enter Tryd.func20, Tryd.ntmps20
            go_wp2_with (first
              | (go_at_call 24; (with_reducible refine (HO _).mono ?_); rintro e w1 ⟨rfl, hx⟩; replace o1 := o1.below hx o1.lt; replace o2 := o2.below hx o2.lt; replace o3 := o3.below hx o3.lt; have hb2 := hb1.trans (hx.mono hb1.size); have hT2 := hT1.below hx; clear hx a0 a1 a2 a3 a4 a5 a6 a7 a8 a9 a10 b0 b1 b2 b3 c0 c1 c2 c3 c4 c5 c6 c7; have a0 := o1.cell 0 rfl; have a1 := o1.cell 1 rfl; have a2 := o1.cell 2 rfl; have a3 := o1.cell 3 rfl; have a4 := o1.cell 4 rfl; have a5 := o1.cell 5 rfl; have a6 := o1.cell 6 rfl; have a7 := o1.cell 7 rfl; have a8 := o1.cell 8 rfl; have a9 := o1.cell 9 rfl; have a10 := o1.cell 10 rfl; have b0 := o2.cell 0 rfl; have b1 := o2.cell 1 rfl; have b2 := o2.cell 2 rfl; have b3 := o2.cell 3 rfl; have c0 := o3.cell 0 rfl; have c1 := o3.cell 1 rfl; have c2 := o3.cell 2 rfl; have c3 := o3.cell 3 rfl; have c4 := o3.cell 4 rfl; have c5 := o3.cell 5 rfl; have c6 := o3.cell 6 rfl; have c7 := o3.cell 7 rfl)
              | (go_at_call 25; (with_reducible refine (HF _ hT2).mono ?_); rintro e w2 ⟨rfl, hx⟩; replace o1 := o1.below hx o1.lt; replace o2 := o2.below hx o2.lt; have hb3 := hb2.trans (hx.mono hb2.size); clear hx a0 a1 a2 a3 a4 a5 a6 a7 a8 a9 a10 b0 b1 b2 b3 c0 c1 c2 c3 c4 c5 c6 c7; have a2 := o1.cell 2 rfl; have b1 := o2.cell 1 rfl)
              | (go_at_call 26; (with_reducible refine (HM _).mono ?_); rintro e w3 ⟨rfl, hx⟩; have hb4 := hb3.trans (hx.mono hb3.size); clear hx))
            go_ret
            exact ⟨rfl, by first | exact hb4 | exact hb3 | exact hb2⟩
          | true =>
            go_enter Tryd.func20, Tryd.ntmps20
            go_wp2_with (first
              | (go_at_call 24; (with_reducible refine (HO _).mono ?_); rintro e w1 ⟨rfl, hx⟩; replace o1 := o1.below hx o1.lt; replace o2 := o2.below hx o2.lt; replace o3 := o3.below hx o3.lt; have hb2 := hb1.trans (hx.mono hb1.size); have hT2 := hT1.below hx; clear hx a0 a1 a2 a3 a4 a5 a6 a7 a8 a9 a10 b0 b1 b2 b3 c0 c1 c2 c3 c4 c5 c6 c7; have a0 := o1.cell 0 rfl; have a1 := o1.cell 1 rfl; have a2 := o1.cell 2 rfl; have a3 := o1.cell 3 rfl; have a4 := o1.cell 4 rfl; have a5 := o1.cell 5 rfl; have a6 := o1.cell 6 rfl; have a7 := o1.cell 7 rfl; have a8 := o1.cell 8 rfl; have a9 := o1.cell 9 rfl; have a10 := o1.cell 10 rfl; have b0 := o2.cell 0 rfl; have b1 := o2.cell 1 rfl; have b2 := o2.cell 2 rfl; have b3 := o2.cell 3 rfl; have c0 := o3.cell 0 rfl; have c1 := o3.cell 1 rfl; have c2 := o3.cell 2 rfl; have c3 := o3.cell 3 rfl; have c4 := o3.cell 4 rfl; have c5 := o3.cell 5 rfl; have c6 := o3.cell 6 rfl; have c7 := o3.cell 7 rfl)
              | (go_at_call 25; (with_reducible refine (HF _ hT2).mono ?_); rintro e w2 ⟨rfl, hx⟩; replace o1 := o1.below hx o1.lt; replace o2 := o2.below hx o2.lt; have hb3 := hb2.trans (hx.mono hb2.size); clear hx a0 a1 a2 a3 a4 a5 a6 a7 a8 a9 a10 b0 b1 b2 b3 c0 c1 c2 c3 c4 c5 c6 c7; have a2 := o1.cell 2 rfl; have b1 := o2.cell 1 rfl)
              | (go_at_call 26; (with_reducible refine (HM _).mono ?_); rintro e w3 ⟨rfl, hx⟩; have hb4 := hb3.trans (hx.mono hb3.size); clear hx))
            go_ret
            exact ⟨rfl, by first | exact hb4 | exact hb3 | exact hb2⟩
    | true =>
      cases sec with
      | false =>
        go_enter Tryd.func20, Tryd.ntmps20
        go_wp2_with (first
          | (go_at_call 24; (with_reducible refine (HO _).mono ?_); rintro e w1 ⟨rfl, hx⟩; replace o1 := o1.below hx o1.lt; replace o2 := o2.below hx o2.lt; replace o3 := o3.below hx o3.lt; have hb2 := hb1.trans (hx.mono hb1.size); have hT2 := hT1.below hx; clear hx a0 a1 a2 a3 a4 a5 a6 a7 a8 a9 a10 b0 b1 b2 b3 c0 c1 c2 c3 c4 c5 c6 c7; have a0 := o1.cell 0 rfl; have a1 := o1.cell 1 rfl; have a2 := o1.cell 2 rfl; have a3 := o1.cell 3 rfl; have a4 := o1.cell 4 rfl; have a5 := o1.cell 5 rfl; have a6 := o1.cell 6 rfl; have a7 := o1.cell 7 rfl; have a8 := o1.cell 8 rfl; have a9 := o1.cell 9 rfl; have a10 := o1.cell 10 rfl; have b0 := o2.cell 0 rfl; have b1 := o2.cell 1 rfl; have b2 := o2.cell 2 rfl; have b3 := o2.cell 3 rfl; have c0 := o3.cell 0 rfl; have c1 := o3.cell 1 rfl; have c2 := o3.cell 2 rfl; have c3 := o3.cell 3 rfl; have c4 := o3.cell 4 rfl; have c5 := o3.cell 5 rfl; have c6 := o3.cell 6 rfl; have c7 := o3.cell 7 rfl)
          | (go_at_call 25; (with_reducible refine (HF _ hT2).mono ?_); rintro e w2 ⟨rfl, hx⟩; replace o1 := o1.below hx o1.lt; replace o2 := o2.below hx o2.lt; have hb3 := hb2.trans (hx.mono hb2.size); clear hx a0 a1 a2 a3 a4 a5 a6 a7 a8 a9 a10 b0 b1 b2 b3 c0 c1 c2 c3 c4 c5 c6 c7; have a2 := o1.cell 2 rfl; have b1 := o2.cell 1 rfl)
          | (go_at_call 26; (with_reducible refine (HM _).mono ?_); rintro e w3 ⟨rfl, hx⟩; have hb4 := hb3.trans (hx.mono hb3.size); clear hx))
        go_ret
        exact ⟨rfl, by first | exact hb4 | exact hb3 | exact hb2⟩
      | true =>
        cases ht with
        | false =>
          cases fr with
          | false =>
            go_enter Tryd.func20, Tryd.ntmps20
            go_wp2_with (first
              | (go_at_call 24; (with_reducible refine (HO _).mono ?_); rintro e w1 ⟨rfl, hx⟩; replace o1 := o1.below hx o1.lt; replace o2 := o2.below hx o2.lt; replace o3 := o3.below hx o3.lt; have hb2 := hb1.trans (hx.mono hb1.size); have hT2 := hT1.below hx; clear hx a0 a1 a2 a3 a4 a5 a6 a7 a8 a9 a10 b0 b1 b2 b3 c0 c1 c2 c3 c4 c5 c6 c7; have a0 := o1.cell 0 rfl; have a1 := o1.cell 1 rfl; have a2 := o1.cell 2 rfl; have a3 := o1.cell 3 rfl; have a4 := o1.cell 4 rfl; have a5 := o1.cell 5 rfl; have a6 := o1.cell 6 rfl; have a7 := o1.cell 7 rfl; have a8 := o1.cell 8 rfl; have a9 := o1.cell 9 rfl; have a10 := o1.cell 10 rfl; have b0 := o2.cell 0 rfl; have b1 := o2.cell 1 rfl; have b2 := o2.cell 2 rfl; have b3 := o2.cell 3 rfl; have c0 := o3.cell 0 rfl; have c1 := o3.cell 1 rfl; have c2 := o3.cell 2 rfl; have c3 := o3.cell 3 rfl; have c4 := o3.cell 4 rfl; have c5 := o3.cell 5 rfl; have c6 := o3.cell 6 rfl; have c7 := o3.cell 7 rfl)
              | (go_at_call 25; (with_reducible refine (HF _ hT2).mono ?_); rintro e w2 ⟨rfl, hx⟩; replace o1 := o1.below hx o1.lt; replace o2 := o2.below hx o2.lt; have hb3 := hb2.trans (hx.mono hb2.size); clear hx a0 a1 a2 a3 a4 a5 a6 a7 a8 a9 a10 b0 b1 b2 b3 c0 c1 c2 c3 c4 c5 c6 c7; have a2 := o1.cell 2 rfl; have b1 := o2.cell 1 rfl)
              | (go_at_call 26; (with_reducible refine (HM _).mono ?_); rintro e w3 ⟨rfl, hx⟩; have hb4 := hb3.trans (hx.mono hb3.size); clear hx))
            go_ret
            exact ⟨rfl, by first | exact hb4 | exact hb3 | exact hb2⟩
          | true =>
            go_enter Tryd.func20, Tryd.ntmps20
            go_wp2_with (first
              | (go_at_call 24; (with_reducible refine (HO _).mono ?_); rintro e w1 ⟨rfl, hx⟩; replace o1 := o1.below hx o1.lt; replace o2 := o2.below hx o2.lt; replace o3 := o3.below hx o3.lt; have hb2 := hb1.trans (hx.mono hb1.size); have hT2 := hT1.below hx; clear hx a0 a1 a2 a3 a4 a5 a6 a7 a8 a9 a10 b0 b1 b2 b3 c0 c1 c2 c3 c4 c5 c6 c7; have a0 := o1.cell 0 rfl; have a1 := o1.cell 1 rfl; have a2 := o1.cell 2 rfl; have a3 := o1.cell 3 rfl; have a4 := o1.cell 4 rfl; have a5 := o1.cell 5 rfl; have a6 := o1.cell 6 rfl; have a7 := o1.cell 7 rfl; have a8 := o1.cell 8 rfl; have a9 := o1.cell 9 rfl; have a10 := o1.cell 10 rfl; have b0 := o2.cell 0 rfl; have b1 := o2.cell 1 rfl; have b2 := o2.cell 2 rfl; have b3 := o2.cell 3 rfl; have c0 := o3.cell 0 rfl; have c1 := o3.cell 1 rfl; have c2 := o3.cell 2 rfl; have c3 := o3.cell 3 rfl; have c4 := o3.cell 4 rfl; have c5 := o3.cell 5 rfl; have c6 := o3.cell 6 rfl; have c7 := o3.cell 7 rfl)
              | (go_at_call 25; (with_reducible refine (HF _ hT2).mono ?_); rintro e w2 ⟨rfl, hx⟩; replace o1 := o1.below hx o1.lt; replace o2 := o2.below hx o2.lt; have hb3 := hb2.trans (hx.mono hb2.size); clear hx a0 a1 a2 a3 a4 a5 a6 a7 a8 a9 a10 b0 b1 b2 b3 c0 c1 c2 c3 c4 c5 c6 c7; have a2 := o1.cell 2 rfl; have b1 := o2.cell 1 rfl)
              | (go_at_call 26; (with_reducible refine (HM _).mono ?_); rintro e w3 ⟨rfl, hx⟩; have hb4 := hb3.trans (hx.mono hb3.size); clear hx))
            go_ret
            exact ⟨rfl, by first | exact hb4 | exact hb3 | exact hb2⟩
        | true =>
          cases script with
          | true =>
            go_enter Tryd.func20, Tryd.ntmps20
            go_wp2_with (first
              | (go_at_call 24; (with_reducible refine (HO _).mono ?_); rintro e w1 ⟨rfl, hx⟩; replace o1 := o1.below hx o1.lt; replace o2 := o2.below hx o2.lt; replace o3 := o3.below hx o3.lt; have hb2 := hb1.trans (hx.mono hb1.size); have hT2 := hT1.below hx; clear hx a0 a1 a2 a3 a4 a5 a6 a7 a8 a9 a10 b0 b1 b2 b3 c0 c1 c2 c3 c4 c5 c6 c7; have a0 := o1.cell 0 rfl; have a1 := o1.cell 1 rfl; have a2 := o1.cell 2 rfl; have a3 := o1.cell 3 rfl; have a4 := o1.cell 4 rfl; have a5 := o1.cell 5 rfl; have a6 := o1.cell 6 rfl; have a7 := o1.cell 7 rfl; have a8 := o1.cell 8 rfl; have a9 := o1.cell 9 rfl; have a10 := o1.cell 10 rfl; have b0 := o2.cell 0 rfl; have b1 := o2.cell 1 rfl; have b2 := o2.cell 2 rfl; have b3 := o2.cell 3 rfl; have c0 := o3.cell 0 rfl; have c1 := o3.cell 1 rfl; have c2 := o3.cell 2 rfl; have c3 := o3.cell 3 rfl; have c4 := o3.cell 4 rfl; have c5 := o3.cell 5 rfl; have c6 := o3.cell 6 rfl; have c7 := o3.cell 7 rfl)
              | (go_at_call 25; (with_reducible refine (HF _ hT2).mono ?_); rintro e w2 ⟨rfl, hx⟩; replace o1 := o1.below hx o1.lt; replace o2 := o2.below hx o2.lt; have hb3 := hb2.trans (hx.mono hb2.size); clear hx a0 a1 a2 a3 a4 a5 a6 a7 a8 a9 a10 b0 b1 b2 b3 c0 c1 c2 c3 c4 c5 c6 c7; have a2 := o1.cell 2 rfl; have b1 := o2.cell 1 rfl)
              | (go_at_call 26; (with_reducible refine (HM _).mono ?_); rintro e w3 ⟨rfl, hx⟩; have hb4 := hb3.trans (hx.mono hb3.size); clear hx))
            go_ret
            exact ⟨rfl, by first | exact hb4 | exact hb3 | exact hb2⟩
          | false =>
            cases fr with
            | false =>
              go_enter Tryd.func20, Tryd.ntmps20
              go_wp2_with (first
                | (go_at_call 24; (with_reducible refine (HO _).mono ?_); rintro e w1 ⟨rfl, hx⟩; replace o1 := o1.below hx o1.lt; replace o2 := o2.below hx o2.lt; replace o3 := o3.below hx o3.lt; have hb2 := hb1.trans (hx.mono hb1.size); have hT2 := hT1.below hx; clear hx a0 a1 a2 a3 a4 a5 a6 a7 a8 a9 a10 b0 b1 b2 b3 c0 c1 c2 c3 c4 c5 c6 c7; have a0 := o1.cell 0 rfl; have a1 := o1.cell 1 rfl; have a2 := o1.cell 2 rfl; have a3 := o1.cell 3 rfl; have a4 := o1.cell 4 rfl; have a5 := o1.cell 5 rfl; have a6 := o1.cell 6 rfl; have a7 := o1.cell 7 rfl; have a8 := o1.cell 8 rfl; have a9 := o1.cell 9 rfl; have a10 := o1.cell 10 rfl; have b0 := o2.cell 0 rfl; have b1 := o2.cell 1 rfl; have b2 := o2.cell 2 rfl; have b3 := o2.cell 3 rfl; have c0 := o3.cell 0 rfl; have c1 := o3.cell 1 rfl; have c2 := o3.cell 2 rfl; have c3 := o3.cell 3 rfl; have c4 := o3.cell 4 rfl; have c5 := o3.cell 5 rfl; have c6 := o3.cell 6 rfl; have c7 := o3.cell 7 rfl)
                | (go_at_call 25; (with_reducible refine (HF _ hT2).mono ?_); rintro e w2 ⟨rfl, hx⟩; replace o1 := o1.below hx o1.lt; replace o2 := o2.below hx o2.lt; have hb3 := hb2.trans (hx.mono hb2.size); clear hx a0 a1 a2 a3 a4 a5 a6 a7 a8 a9 a10 b0 b1 b2 b3 c0 c1 c2 c3 c4 c5 c6 c7; have a2 := o1.cell 2 rfl; have b1 := o2.cell 1 rfl)
                | (go_at_call 26; (with_reducible refine (HM _).mono ?_); rintro e w3 ⟨rfl, hx⟩; have hb4 := hb3.trans (hx.mono hb3.size); clear hx))
              go_ret
              exact ⟨rfl, by first | exact hb4 | exact hb3 | exact hb2⟩
            | true =>
              go_enter Tryd.func20, Tryd.ntmps20
              go_wp2_with (first
                | (go_at_call 24; (with_reducible refine (HO _).mono ?_); rintro e w1 ⟨rfl, hx⟩; replace o1 := o1.below hx o1.lt; replace o2 := o2.below hx o2.lt; replace o3 := o3.below hx o3.lt; have hb2 := hb1.trans (hx.mono hb1.size); have hT2 := hT1.below hx; clear hx a0 a1 a2 a3 a4 a5 a6 a7 a8 a9 a10 b0 b1 b2 b3 c0 c1 c2 c3 c4 c5 c6 c7; have a0 := o1.cell 0 rfl; have a1 := o1.cell 1 rfl; have a2 := o1.cell 2 rfl; have a3 := o1.cell 3 rfl; have a4 := o1.cell 4 rfl; have a5 := o1.cell 5 rfl; have a6 := o1.cell 6 rfl; have a7 := o1.cell 7 rfl; have a8 := o1.cell 8 rfl; have a9 := o1.cell 9 rfl; have a10 := o1.cell 10 rfl; have b0 := o2.cell 0 rfl; have b1 := o2.cell 1 rfl; have b2 := o2.cell 2 rfl; have b3 := o2.cell 3 rfl; have c0 := o3.cell 0 rfl; have c1 := o3.cell 1 rfl; have c2 := o3.cell 2 rfl; have c3 := o3.cell 3 rfl; have c4 := o3.cell 4 rfl; have c5 := o3.cell 5 rfl; have c6 := o3.cell 6 rfl; have c7 := o3.cell 7 rfl)
                | (go_at_call 25; (with_reducible refine (HF _ hT2).mono ?_); rintro e w2 ⟨rfl, hx⟩; replace o1 := o1.below hx o1.lt; replace o2 := o2.below hx o2.lt; have hb3 := hb2.trans (hx.mono hb2.size); clear hx a0 a1 a2 a3 a4 a5 a6 a7 a8 a9 a10 b0 b1 b2 b3 c0 c1 c2 c3 c4 c5 c6 c7; have a2 := o1.cell 2 rfl; have b1 := o2.cell 1 rfl)
                | (go_at_call 26; (with_reducible refine (HM _).mono ?_); rintro e w3 ⟨rfl, hx⟩; have hb4 := hb3.trans (hx.mono hb3.size); clear hx))
              go_ret
              exact ⟨rfl, by first | exact hb4 | exact hb3 | exact hb2⟩

end Go.Proofs.YtjocnhkapiiblaaDoor
