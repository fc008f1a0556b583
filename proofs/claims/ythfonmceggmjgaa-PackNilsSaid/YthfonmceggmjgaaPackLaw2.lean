/- The walk of layer 5's law of nil objects. -/
import Derived.Test.YthfonmceggmjgaaPackLaw
import Derived.Test.YthfonmceggmjgaaPackNil
namespace Go.Proofs.Ythfonmceggmjgaa
open Go.RowKit
set_option linter.unusedVariables false

/-- A part that lies in block B. -/
def PartAt (B : Nat) (q : Part) (w : World) : Prop :=
  w.cell? ⟨B, 0, none⟩ = some (.int .i64 q.K) ∧ w.cell? ⟨B, 1, none⟩ = some (.int .u64 (q.N : Int)) ∧ w.cell? ⟨B, 2, none⟩ = some (.string q.S) ∧ w.cell? ⟨B, 3, none⟩ = some (.slice q.A q.L q.C) ∧ w.cell? ⟨B, 4, none⟩ = some (.int .i64 q.M)
theorem PartAt.new (q : Part) (w : World) (t : TypeId) : PartAt w.heap.size q (w.alloc (.cells q.cells t)) := by
  refine ⟨?_, ?_, ?_, ?_, ?_⟩ <;> · rw [World.cell?_alloc_at _ _ _ _ rfl]; rfl
theorem PartAt.below {B : Nat} {q : Part} {w w' : World} (h : PartAt B q w) (hb : Below w.heap.size w w') : PartAt B q w' :=
  ⟨(hb.cell (cell_lt h.1)).trans h.1, (hb.cell (cell_lt h.2.1)).trans h.2.1, (hb.cell (cell_lt h.2.2.1)).trans h.2.2.1, (hb.cell (cell_lt h.2.2.2.1)).trans h.2.2.2.1, (hb.cell (cell_lt h.2.2.2.2)).trans h.2.2.2.2⟩
theorem IsParts.one (q : Part) (w : World) (t : TypeId) (hq : q.ok w) : IsParts (w.alloc (.cells q.cells t)) (some ⟨w.heap.size, 0, none⟩) 1 1 (fun _ => q) := by
  obtain ⟨h0, h1, h2, h3, h4⟩ := PartAt.new q w t
  refine ⟨Nat.le_refl _, by unfold maxLen; omega, (fun h => by cases h), fun r hr => ?_⟩
  obtain rfl : r = 0 := by omega
  exact ⟨w.heap.size, 0, rfl, h0, h1, h2, h3, h4, hq.below (below_alloc w _)⟩

set_option maxRecDepth 100000 in
theorem packNils_big (q : Part) (w : World) (hq : q.ok w) (hl : ¬ Light (fun _ => q) 1) :
    Calls Try.prog 5 #[.agg q.cells] w fun e w' => e = .returned (.bool true) ∧ Below w.heap.size w w' := by
  have hb0 := below_alloc w (.cells q.cells 34)
  have hp0 := PartAt.new q w 34
  have hq0 := hq.below hb0
  have hb1 := below_alloc (w.alloc (.cells q.cells 34)) (.cells q.cells 34)
  have HL := lightNo (fun _ => q) _ 1 1 _ (IsParts.one q (w.alloc (.cells q.cells 34)) 34 hq0) hl
  obtain ⟨K, N, S, A, L, C, M, F⟩ := q
  unfold Part.cells at *
  obtain ⟨d0, d1, d2, d3, d4⟩ := hp0
  dsimp only at *
  generalize hw1 : w.alloc (.cells #[.int .i64 K, .int .u64 (N : Int), .string S, .slice A L C, .int .i64 M] 34) = w1 at *
  generalize hw2 : w1.alloc (.cells #[.int .i64 K, .int .u64 (N : Int), .string S, .slice A L C, .int .i64 M] 34) = w2 at *
  clear hq hl hq0
  go_enter Try.func5, Try.ntmps5
  go_wp2_with (first
    | (go_at_call 6; (with_reducible refine HL.mono ?_); rintro e w' ⟨rfl, rfl⟩)
    | (go_at_call 7; (with_reducible refine (awake05C _).mono ?_); rintro e w' ⟨rfl, hb⟩))
  go_ret
  exact ⟨rfl, (hb0.trans (hb1.mono hb0.size)).trans (hb.mono (Nat.le_trans hb0.size hb1.size))⟩

set_option maxRecDepth 100000 in
set_option maxHeartbeats 4000000 in
theorem packNils_small (q : Part) (w : World) (hq : q.ok w) (hl : Light (fun _ => q) 1) :
    Calls Try.prog 5 #[.agg q.cells] w fun e w' => e = .returned (.bool true) ∧ Below w.heap.size w w' := by
  have hb0 := below_alloc w (.cells q.cells 34)
  have hp0 := PartAt.new q w 34
  have hq0 := hq.below hb0
  have hb1 := below_alloc (w.alloc (.cells q.cells 34)) (.cells q.cells 34)
  have hq1 := hq0.below hb1
  have HL := lightYes (fun _ => q) _ 1 1 _ (IsParts.one q (w.alloc (.cells q.cells 34)) 34 hq0) hl
  have hp1 := hp0.below hb1
  have hb01 := hb0.trans (hb1.mono hb0.size)
  have hS : q.S.size ≤ 300 := (hl.2 0 (by omega)).1
  have HPUT := fun v hok => putNil q v hok hS
  obtain ⟨K, N, S, A, L, C, M, F⟩ := q
  unfold Part.cells at *
  obtain ⟨d0, d1, d2, d3, d4⟩ := hp1
  obtain ⟨e0, e1, e2, e3, e4⟩ := hp0
  dsimp only at *
  obtain ⟨n1, k0, k1, m0, m1, s1, fl, lc, cm, nil, -⟩ := hq
  dsimp only at *
  have HI := fun w => wIntNil 1 2 w rfl (by omega) (by omega) (by omega)
  have HF := fun v hr => wFlagsNil F L _ C A v hr fl lc cm rfl
  generalize hw1 : w.alloc (.cells #[.int .i64 K, .int .u64 (N : Int), .string S, .slice A L C, .int .i64 M] 34) = w1 at *
  generalize hw2 : w1.alloc (.cells #[.int .i64 K, .int .u64 (N : Int), .string S, .slice A L C, .int .i64 M] 34) = w2 at *
  clear hl hb0 hb1 hq0 fl
  go_enter Try.func5, Try.ntmps5
  go_wp2_with (first
    | (go_at_call 6; (with_reducible refine HL.mono ?_); rintro e w' ⟨rfl, rfl⟩)
    | (go_at_call 9; (with_reducible refine (HPUT _ hq1).mono ?_); rintro e w3 ⟨rfl, hb3⟩; have hp3 := PartAt.below (q := ⟨K, N, S, A, L, C, M, F⟩) ⟨d0, d1, d2, d3, d4⟩ hb3; obtain ⟨f0, f1, f2, f3, f4⟩ := hp3; have hr3 := hq1.rd.below' hb3; have hbw3 := hb01.trans (hb3.mono hb01.size); dsimp only at f0 f1 f2 f3 f4 hr3)
    | (go_at_call 23; (with_reducible refine (wNumNil N _ n1).mono ?_); rintro e w4 ⟨rfl, hb4⟩; have hp4 := PartAt.below (q := ⟨K, N, S, A, L, C, M, F⟩) ⟨f0, f1, f2, f3, f4⟩ hb4; obtain ⟨g0, g1, g2, g3, g4⟩ := hp4; have hr4 := hr3.below' hb4; have hbw4 := hbw3.trans (hb4.mono hbw3.size); dsimp only at g0 g1 g2 g3 g4)
    | (go_at_call 24; (with_reducible refine (HI _).mono ?_); rintro e w5 ⟨rfl, hb5⟩; have hp5 := PartAt.below (q := ⟨K, N, S, A, L, C, M, F⟩) ⟨g0, g1, g2, g3, g4⟩ hb5; obtain ⟨h0, h1, h2, h3, h4⟩ := hp5; have hr5 := hr4.below' hb5; have hbw5 := hbw4.trans (hb5.mono hbw4.size); dsimp only at h0 h1 h2 h3 h4)
    | (go_at_call 25; (with_reducible refine (wTextNil S _ (by omega)).mono ?_); rintro e w6 ⟨rfl, hb6⟩; have hp6 := PartAt.below (q := ⟨K, N, S, A, L, C, M, F⟩) ⟨h0, h1, h2, h3, h4⟩ hb6; obtain ⟨i0, i1, i2, i3, i4⟩ := hp6; have hr6 := hr5.below' hb6; have hbw6 := hbw5.trans (hb6.mono hbw5.size); dsimp only at i0 i1 i2 i3 i4)
    | (go_at_call 26; (with_reducible refine (HF _ hr6).mono ?_); rintro e w7 ⟨rfl, hb7⟩; have hp7 := PartAt.below (q := ⟨K, N, S, A, L, C, M, F⟩) ⟨i0, i1, i2, i3, i4⟩ hb7; obtain ⟨j0, j1, j2, j3, j4⟩ := hp7; have hr7 := hr6.below' hb7; have hbw7 := hbw6.trans (hb7.mono hbw6.size); dsimp only at j0 j1 j2 j3 j4)
    | (go_at_call 8; (with_reducible refine (wBytesNil _).mono ?_); rintro e w' ⟨rfl, rfl⟩)
    | (go_at_call 22; (with_reducible refine (rFailNil _ _).mono ?_); rintro e w' ⟨rfl, rfl⟩)
    | (go_at_call 16; (with_reducible refine (rNumNil _ _).mono ?_); rintro e w' ⟨rfl, rfl⟩)
    | (go_at_call 17; (with_reducible refine (rIntNil _ _).mono ?_); rintro e w' ⟨rfl, rfl⟩)
    | (go_at_call 18; (with_reducible refine (rTextNil _ _).mono ?_); rintro e w' ⟨rfl, rfl⟩)
    | (go_at_call 20; (with_reducible refine (rFlagsNil _ _).mono ?_); rintro e w' ⟨rfl, rfl⟩)
    | (go_at_call 27; (with_reducible refine (rLeftNil _).mono ?_); rintro e w' ⟨rfl, rfl⟩)
    | (go_at_call 28; (with_reducible refine (rErrNil _).mono ?_); rintro e w' ⟨rfl, rfl⟩)
    | (go_at_call 21; (with_reducible refine (rEndNil _).mono ?_); rintro e w' ⟨rfl, rfl⟩)
    | (go_at_call 7; (with_reducible refine (awake05C _).mono ?_); rintro e w8 ⟨rfl, hb8⟩))
  go_ret
  exact ⟨rfl, hbw7.trans (hb8.mono hbw7.size)⟩

theorem packNils_walk (q : Part) (w : World) (hq : q.ok w) :
    Calls Try.prog 5 #[.agg q.cells] w fun e w' => e = .returned (.bool true) ∧ Below w.heap.size w w' := by
  by_cases h : Light (fun _ => q) 1
  · exact packNils_small q w hq h
  · exact packNils_big q w hq h
end Go.Proofs.Ythfonmceggmjgaa
