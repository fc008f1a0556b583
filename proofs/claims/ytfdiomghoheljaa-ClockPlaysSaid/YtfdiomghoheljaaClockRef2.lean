/- Contracts of the reference of layer 19: a stamp restored, or heard; the next one. -/
import Derived.Test.YtfdiomghoheljaaClockRef
namespace Go.Proofs.Ytfdiomghoheljaa
open Go.RowKit
set_option linter.unusedVariables false

set_option maxRecDepth 100000 in
theorem refRestoreC (c : ClockN) (s : StampN) (w : World) :
    Calls Try.prog 36 #[valK c, valT s] w fun e w' => e = .returned (.tuple #[valK (restoreK c s).1, .int .i64 (restoreK c s).2]) ∧ Below w.heap.size w w' := by
  have HR := fun v => refTRightC s v
  unfold restoreK takeK
  generalize rightT s = rs at *
  obtain ⟨nw, wl, ct, dv⟩ := c
  obtain ⟨a, b, d⟩ := s
  unfold valK valT at *
  dsimp only at HR ⊢
  obtain ⟨o1, o2, o3, hb⟩ := objs3 w #[.int .i64 nw, .int .i64 wl, .int .i64 ct, .int .i64 dv] #[.int .i64 a, .int .i64 b, .int .i64 d] #[.int .i64 0, .int .i64 0, .int .i64 0, .int .i64 0] 31 29 31
  generalize hv : ((w.alloc (.cells #[.int .i64 nw, .int .i64 wl, .int .i64 ct, .int .i64 dv] 31)).alloc (.cells #[.int .i64 a, .int .i64 b, .int .i64 d] 29)).alloc (.cells #[.int .i64 0, .int .i64 0, .int .i64 0, .int .i64 0] 31) = v at *
  have v0 := o2.cell 0 rfl; have v1 := o2.cell 1 rfl; have v2 := o2.cell 2 rfl; skip
  cases rs with
  | false =>
    rw [if_pos rfl]
    go_enter Try.func36, Try.ntmps36
    go_wp2_with (go_at_call 22; (with_reducible refine (HR _).mono ?_); rintro e w1 ⟨rfl, hx⟩; have o1 := o1.below hx o1.lt; have o2 := o2.below hx o2.lt; have o3 := o3.below hx o3.lt; have hb := hb.trans (hx.mono hb.size); clear hx; have u0 := o1.cell 0 rfl; have u1 := o1.cell 1 rfl; have u2 := o1.cell 2 rfl; have u3 := o1.cell 3 rfl; have v0 := o2.cell 0 rfl; have v1 := o2.cell 1 rfl; have v2 := o2.cell 2 rfl; have r0 := o3.cell 0 rfl; have r1 := o3.cell 1 rfl; have r2 := o3.cell 2 rfl; have r3 := o3.cell 3 rfl; have f0 := o1.free 0; have f1 := o1.free 1; have f2 := o1.free 2; have f3 := o1.free 3; have g0 := o3.free 0; have g1 := o3.free 1; have g2 := o3.free 2; have g3 := o3.free 3)
    have o9 := ((((o3.set 0 (.int .i64 nw)).set 1 (.int .i64 wl)).set 2 (.int .i64 ct)).set 3 (.int .i64 dv))
    have s0 := o9.cell 0 rfl
    have s1 := o9.cell 1 rfl
    have s2 := o9.cell 2 rfl
    have s3 := o9.cell 3 rfl
    exact bodyPost_ret (v := .tuple #[.agg #[.int .i64 nw, .int .i64 wl, .int .i64 ct, .int .i64 dv], .int .i64 4]) (by simp [results, Try.results36, go_sem, s0, s1, s2, s3]) rfl ⟨rfl, ((((hb.setCell (p := ⟨w.heap.size + 1 + 1, 0, none⟩) (by simp only; omega) (.int .i64 nw)).setCell (p := ⟨w.heap.size + 1 + 1, 1, none⟩) (by simp only; omega) (.int .i64 wl)).setCell (p := ⟨w.heap.size + 1 + 1, 2, none⟩) (by simp only; omega) (.int .i64 ct)).setCell (p := ⟨w.heap.size + 1 + 1, 3, none⟩) (by simp only; omega) (.int .i64 dv))⟩
  | true =>
    rw [if_neg (by decide)]
    dsimp only
    by_cases q0 : wl < a
    · have d0 : decide (wl < a) = true := decide_eq_true q0
      rw [if_pos (.inl q0)]
      go_enter Try.func36, Try.ntmps36
      go_wp2_with (go_at_call 22; (with_reducible refine (HR _).mono ?_); rintro e w1 ⟨rfl, hx⟩; have o1 := o1.below hx o1.lt; have o2 := o2.below hx o2.lt; have o3 := o3.below hx o3.lt; have hb := hb.trans (hx.mono hb.size); clear hx; have u0 := o1.cell 0 rfl; have u1 := o1.cell 1 rfl; have u2 := o1.cell 2 rfl; have u3 := o1.cell 3 rfl; have v0 := o2.cell 0 rfl; have v1 := o2.cell 1 rfl; have v2 := o2.cell 2 rfl; have r0 := o3.cell 0 rfl; have r1 := o3.cell 1 rfl; have r2 := o3.cell 2 rfl; have r3 := o3.cell 3 rfl; have f0 := o1.free 0; have f1 := o1.free 1; have f2 := o1.free 2; have f3 := o1.free 3; have g0 := o3.free 0; have g1 := o3.free 1; have g2 := o3.free 2; have g3 := o3.free 3)
      have o9 := ((((((o3.other (p := ⟨w.heap.size, 1, none⟩) (by simp only; omega) (.int .i64 a)).other (p := ⟨w.heap.size, 2, none⟩) (by simp only; omega) (.int .i64 b)).set 0 (.int .i64 nw)).set 1 (.int .i64 a)).set 2 (.int .i64 b)).set 3 (.int .i64 dv))
      have s0 := o9.cell 0 rfl
      have s1 := o9.cell 1 rfl
      have s2 := o9.cell 2 rfl
      have s3 := o9.cell 3 rfl
      exact bodyPost_ret (v := .tuple #[.agg #[.int .i64 nw, .int .i64 a, .int .i64 b, .int .i64 dv], .int .i64 0]) (by simp [results, Try.results36, go_sem, s0, s1, s2, s3]) rfl ⟨rfl, ((((((hb.setCell (p := ⟨w.heap.size, 1, none⟩) (by simp only; omega) (.int .i64 a)).setCell (p := ⟨w.heap.size, 2, none⟩) (by simp only; omega) (.int .i64 b)).setCell (p := ⟨w.heap.size + 1 + 1, 0, none⟩) (by simp only; omega) (.int .i64 nw)).setCell (p := ⟨w.heap.size + 1 + 1, 1, none⟩) (by simp only; omega) (.int .i64 a)).setCell (p := ⟨w.heap.size + 1 + 1, 2, none⟩) (by simp only; omega) (.int .i64 b)).setCell (p := ⟨w.heap.size + 1 + 1, 3, none⟩) (by simp only; omega) (.int .i64 dv))⟩
    · have d0 : decide (wl < a) = false := decide_eq_false q0
      by_cases q1 : wl = a
      · subst q1
        have e1 : (wl == wl) = true := by simp
        by_cases q2 : ct < b
        · have d2 : decide (ct < b) = true := decide_eq_true q2
          rw [if_pos (.inr ⟨rfl, q2⟩)]
          go_enter Try.func36, Try.ntmps36
          go_wp2_with (go_at_call 22; (with_reducible refine (HR _).mono ?_); rintro e w1 ⟨rfl, hx⟩; have o1 := o1.below hx o1.lt; have o2 := o2.below hx o2.lt; have o3 := o3.below hx o3.lt; have hb := hb.trans (hx.mono hb.size); clear hx; have u0 := o1.cell 0 rfl; have u1 := o1.cell 1 rfl; have u2 := o1.cell 2 rfl; have u3 := o1.cell 3 rfl; have v0 := o2.cell 0 rfl; have v1 := o2.cell 1 rfl; have v2 := o2.cell 2 rfl; have r0 := o3.cell 0 rfl; have r1 := o3.cell 1 rfl; have r2 := o3.cell 2 rfl; have r3 := o3.cell 3 rfl; have f0 := o1.free 0; have f1 := o1.free 1; have f2 := o1.free 2; have f3 := o1.free 3; have g0 := o3.free 0; have g1 := o3.free 1; have g2 := o3.free 2; have g3 := o3.free 3)
          have o9 := ((((((o3.other (p := ⟨w.heap.size, 1, none⟩) (by simp only; omega) (.int .i64 wl)).other (p := ⟨w.heap.size, 2, none⟩) (by simp only; omega) (.int .i64 b)).set 0 (.int .i64 nw)).set 1 (.int .i64 wl)).set 2 (.int .i64 b)).set 3 (.int .i64 dv))
          have s0 := o9.cell 0 rfl
          have s1 := o9.cell 1 rfl
          have s2 := o9.cell 2 rfl
          have s3 := o9.cell 3 rfl
          exact bodyPost_ret (v := .tuple #[.agg #[.int .i64 nw, .int .i64 wl, .int .i64 b, .int .i64 dv], .int .i64 0]) (by simp [results, Try.results36, go_sem, s0, s1, s2, s3]) rfl ⟨rfl, ((((((hb.setCell (p := ⟨w.heap.size, 1, none⟩) (by simp only; omega) (.int .i64 wl)).setCell (p := ⟨w.heap.size, 2, none⟩) (by simp only; omega) (.int .i64 b)).setCell (p := ⟨w.heap.size + 1 + 1, 0, none⟩) (by simp only; omega) (.int .i64 nw)).setCell (p := ⟨w.heap.size + 1 + 1, 1, none⟩) (by simp only; omega) (.int .i64 wl)).setCell (p := ⟨w.heap.size + 1 + 1, 2, none⟩) (by simp only; omega) (.int .i64 b)).setCell (p := ⟨w.heap.size + 1 + 1, 3, none⟩) (by simp only; omega) (.int .i64 dv))⟩
        · have d2 : decide (ct < b) = false := decide_eq_false q2
          rw [if_neg (by omega)]
          go_enter Try.func36, Try.ntmps36
          go_wp2_with (go_at_call 22; (with_reducible refine (HR _).mono ?_); rintro e w1 ⟨rfl, hx⟩; have o1 := o1.below hx o1.lt; have o2 := o2.below hx o2.lt; have o3 := o3.below hx o3.lt; have hb := hb.trans (hx.mono hb.size); clear hx; have u0 := o1.cell 0 rfl; have u1 := o1.cell 1 rfl; have u2 := o1.cell 2 rfl; have u3 := o1.cell 3 rfl; have v0 := o2.cell 0 rfl; have v1 := o2.cell 1 rfl; have v2 := o2.cell 2 rfl; have r0 := o3.cell 0 rfl; have r1 := o3.cell 1 rfl; have r2 := o3.cell 2 rfl; have r3 := o3.cell 3 rfl; have f0 := o1.free 0; have f1 := o1.free 1; have f2 := o1.free 2; have f3 := o1.free 3; have g0 := o3.free 0; have g1 := o3.free 1; have g2 := o3.free 2; have g3 := o3.free 3)
          have o9 := ((((o3.set 0 (.int .i64 nw)).set 1 (.int .i64 wl)).set 2 (.int .i64 ct)).set 3 (.int .i64 dv))
          have s0 := o9.cell 0 rfl
          have s1 := o9.cell 1 rfl
          have s2 := o9.cell 2 rfl
          have s3 := o9.cell 3 rfl
          exact bodyPost_ret (v := .tuple #[.agg #[.int .i64 nw, .int .i64 wl, .int .i64 ct, .int .i64 dv], .int .i64 0]) (by simp [results, Try.results36, go_sem, s0, s1, s2, s3]) rfl ⟨rfl, ((((hb.setCell (p := ⟨w.heap.size + 1 + 1, 0, none⟩) (by simp only; omega) (.int .i64 nw)).setCell (p := ⟨w.heap.size + 1 + 1, 1, none⟩) (by simp only; omega) (.int .i64 wl)).setCell (p := ⟨w.heap.size + 1 + 1, 2, none⟩) (by simp only; omega) (.int .i64 ct)).setCell (p := ⟨w.heap.size + 1 + 1, 3, none⟩) (by simp only; omega) (.int .i64 dv))⟩
      · have e1 : (a == wl) = false := beq_eq_false_iff_ne.2 (Ne.symm q1)
        have q1' : ¬ a = wl := Ne.symm q1
        rw [if_neg (by omega)]
        go_enter Try.func36, Try.ntmps36
        go_wp2_with (go_at_call 22; (with_reducible refine (HR _).mono ?_); rintro e w1 ⟨rfl, hx⟩; have o1 := o1.below hx o1.lt; have o2 := o2.below hx o2.lt; have o3 := o3.below hx o3.lt; have hb := hb.trans (hx.mono hb.size); clear hx; have u0 := o1.cell 0 rfl; have u1 := o1.cell 1 rfl; have u2 := o1.cell 2 rfl; have u3 := o1.cell 3 rfl; have v0 := o2.cell 0 rfl; have v1 := o2.cell 1 rfl; have v2 := o2.cell 2 rfl; have r0 := o3.cell 0 rfl; have r1 := o3.cell 1 rfl; have r2 := o3.cell 2 rfl; have r3 := o3.cell 3 rfl; have f0 := o1.free 0; have f1 := o1.free 1; have f2 := o1.free 2; have f3 := o1.free 3; have g0 := o3.free 0; have g1 := o3.free 1; have g2 := o3.free 2; have g3 := o3.free 3)
        have o9 := ((((o3.set 0 (.int .i64 nw)).set 1 (.int .i64 wl)).set 2 (.int .i64 ct)).set 3 (.int .i64 dv))
        have s0 := o9.cell 0 rfl
        have s1 := o9.cell 1 rfl
        have s2 := o9.cell 2 rfl
        have s3 := o9.cell 3 rfl
        exact bodyPost_ret (v := .tuple #[.agg #[.int .i64 nw, .int .i64 wl, .int .i64 ct, .int .i64 dv], .int .i64 0]) (by simp [results, Try.results36, go_sem, s0, s1, s2, s3]) rfl ⟨rfl, ((((hb.setCell (p := ⟨w.heap.size + 1 + 1, 0, none⟩) (by simp only; omega) (.int .i64 nw)).setCell (p := ⟨w.heap.size + 1 + 1, 1, none⟩) (by simp only; omega) (.int .i64 wl)).setCell (p := ⟨w.heap.size + 1 + 1, 2, none⟩) (by simp only; omega) (.int .i64 ct)).setCell (p := ⟨w.heap.size + 1 + 1, 3, none⟩) (by simp only; omega) (.int .i64 dv))⟩

set_option maxRecDepth 100000 in
theorem refHearC (c : ClockN) (s : StampN) (w : World) (hc : OkK c) :
    Calls Try.prog 35 #[valK c, valT s] w fun e w' => e = .returned (.tuple #[valK (hearK c s).1, .int .i64 (hearK c s).2]) ∧ Below w.heap.size w w' := by
  have HR := fun v => refTRightC s v
  have HS := fun v => refRestoreC c s v
  obtain ⟨h0, h1, -⟩ := hc
  unfold hearK
  unfold restoreK at HS
  generalize rightT s = rs at *
  generalize takeK c s = k at *
  obtain ⟨nw, wl, ct, dv⟩ := c
  obtain ⟨a, b, d⟩ := s
  obtain ⟨nK, wK, cK, dK⟩ := k
  unfold valK valT at *
  dsimp only at HR HS h0 h1 ⊢
  obtain ⟨o1, o2, o3, hb⟩ := objs3 w #[.int .i64 nw, .int .i64 wl, .int .i64 ct, .int .i64 dv] #[.int .i64 a, .int .i64 b, .int .i64 d] #[.int .i64 0, .int .i64 0, .int .i64 0, .int .i64 0] 31 29 31
  generalize hv : ((w.alloc (.cells #[.int .i64 nw, .int .i64 wl, .int .i64 ct, .int .i64 dv] 31)).alloc (.cells #[.int .i64 a, .int .i64 b, .int .i64 d] 29)).alloc (.cells #[.int .i64 0, .int .i64 0, .int .i64 0, .int .i64 0] 31) = v at *
  have v0 := o2.cell 0 rfl; have v1 := o2.cell 1 rfl; have v2 := o2.cell 2 rfl; skip
  cases rs with
  | false =>
    rw [if_pos rfl]
    go_enter Try.func35, Try.ntmps35
    go_wp2_with (go_at_call 22; (with_reducible refine (HR _).mono ?_); rintro e w1 ⟨rfl, hx⟩; have o1 := o1.below hx o1.lt; have o2 := o2.below hx o2.lt; have o3 := o3.below hx o3.lt; have hb := hb.trans (hx.mono hb.size); clear hx; have u0 := o1.cell 0 rfl; have u1 := o1.cell 1 rfl; have u2 := o1.cell 2 rfl; have u3 := o1.cell 3 rfl; have v0 := o2.cell 0 rfl; have v1 := o2.cell 1 rfl; have v2 := o2.cell 2 rfl; have r0 := o3.cell 0 rfl; have r1 := o3.cell 1 rfl; have r2 := o3.cell 2 rfl; have r3 := o3.cell 3 rfl; have f0 := o1.free 0; have f1 := o1.free 1; have f2 := o1.free 2; have f3 := o1.free 3; have g0 := o3.free 0; have g1 := o3.free 1; have g2 := o3.free 2; have g3 := o3.free 3)
    have o9 := ((((o3.set 0 (.int .i64 nw)).set 1 (.int .i64 wl)).set 2 (.int .i64 ct)).set 3 (.int .i64 dv))
    have s0 := o9.cell 0 rfl
    have s1 := o9.cell 1 rfl
    have s2 := o9.cell 2 rfl
    have s3 := o9.cell 3 rfl
    exact bodyPost_ret (v := .tuple #[.agg #[.int .i64 nw, .int .i64 wl, .int .i64 ct, .int .i64 dv], .int .i64 4]) (by simp [results, Try.results35, go_sem, s0, s1, s2, s3]) rfl ⟨rfl, ((((hb.setCell (p := ⟨w.heap.size + 1 + 1, 0, none⟩) (by simp only; omega) (.int .i64 nw)).setCell (p := ⟨w.heap.size + 1 + 1, 1, none⟩) (by simp only; omega) (.int .i64 wl)).setCell (p := ⟨w.heap.size + 1 + 1, 2, none⟩) (by simp only; omega) (.int .i64 ct)).setCell (p := ⟨w.heap.size + 1 + 1, 3, none⟩) (by simp only; omega) (.int .i64 dv))⟩
  | true =>
    rw [if_neg (by decide)]
    simp only [if_neg (show ¬ (true = false) by decide)] at HS
    by_cases q0 : nw + 60000 < a
    · rw [if_pos q0]
      go_enter Try.func35, Try.ntmps35
      go_wp2_with (go_at_call 22; (with_reducible refine (HR _).mono ?_); rintro e w1 ⟨rfl, hx⟩; have o1 := o1.below hx o1.lt; have o2 := o2.below hx o2.lt; have o3 := o3.below hx o3.lt; have hb := hb.trans (hx.mono hb.size); clear hx; have u0 := o1.cell 0 rfl; have u1 := o1.cell 1 rfl; have u2 := o1.cell 2 rfl; have u3 := o1.cell 3 rfl; have v0 := o2.cell 0 rfl; have v1 := o2.cell 1 rfl; have v2 := o2.cell 2 rfl; have r0 := o3.cell 0 rfl; have r1 := o3.cell 1 rfl; have r2 := o3.cell 2 rfl; have r3 := o3.cell 3 rfl; have f0 := o1.free 0; have f1 := o1.free 1; have f2 := o1.free 2; have f3 := o1.free 3; have g0 := o3.free 0; have g1 := o3.free 1; have g2 := o3.free 2; have g3 := o3.free 3)
      have o9 := ((((o3.set 0 (.int .i64 nw)).set 1 (.int .i64 wl)).set 2 (.int .i64 ct)).set 3 (.int .i64 dv))
      have s0 := o9.cell 0 rfl
      have s1 := o9.cell 1 rfl
      have s2 := o9.cell 2 rfl
      have s3 := o9.cell 3 rfl
      exact bodyPost_ret (v := .tuple #[.agg #[.int .i64 nw, .int .i64 wl, .int .i64 ct, .int .i64 dv], .int .i64 8]) (by simp [results, Try.results35, go_sem, s0, s1, s2, s3]) rfl ⟨rfl, ((((hb.setCell (p := ⟨w.heap.size + 1 + 1, 0, none⟩) (by simp only; omega) (.int .i64 nw)).setCell (p := ⟨w.heap.size + 1 + 1, 1, none⟩) (by simp only; omega) (.int .i64 wl)).setCell (p := ⟨w.heap.size + 1 + 1, 2, none⟩) (by simp only; omega) (.int .i64 ct)).setCell (p := ⟨w.heap.size + 1 + 1, 3, none⟩) (by simp only; omega) (.int .i64 dv))⟩
    · rw [if_neg q0]
      go_enter Try.func35, Try.ntmps35
      go_wp2_with (first
        | (go_at_call 22; (with_reducible refine (HR _).mono ?_); rintro e w1 ⟨rfl, hx⟩; have o1 := o1.below hx o1.lt; have o2 := o2.below hx o2.lt; have o3 := o3.below hx o3.lt; have hb := hb.trans (hx.mono hb.size); clear hx; have u0 := o1.cell 0 rfl; have u1 := o1.cell 1 rfl; have u2 := o1.cell 2 rfl; have u3 := o1.cell 3 rfl; have v0 := o2.cell 0 rfl; have v1 := o2.cell 1 rfl; have v2 := o2.cell 2 rfl; have r0 := o3.cell 0 rfl; have r1 := o3.cell 1 rfl; have r2 := o3.cell 2 rfl; have r3 := o3.cell 3 rfl; have f0 := o1.free 0; have f1 := o1.free 1; have f2 := o1.free 2; have f3 := o1.free 3; have g0 := o3.free 0; have g1 := o3.free 1; have g2 := o3.free 2; have g3 := o3.free 3)
        | (go_at_call 36; (with_reducible refine (HS _).mono ?_); rintro e w2 ⟨rfl, hx⟩; have o1 := o1.below hx o1.lt; have o2 := o2.below hx o2.lt; have o3 := o3.below hx o3.lt; have hb := hb.trans (hx.mono hb.size); clear hx; have u0 := o1.cell 0 rfl; have u1 := o1.cell 1 rfl; have u2 := o1.cell 2 rfl; have u3 := o1.cell 3 rfl; have v0 := o2.cell 0 rfl; have v1 := o2.cell 1 rfl; have v2 := o2.cell 2 rfl; have r0 := o3.cell 0 rfl; have r1 := o3.cell 1 rfl; have r2 := o3.cell 2 rfl; have r3 := o3.cell 3 rfl; have f0 := o1.free 0; have f1 := o1.free 1; have f2 := o1.free 2; have f3 := o1.free 3; have g0 := o3.free 0; have g1 := o3.free 1; have g2 := o3.free 2; have g3 := o3.free 3))
      have o9 := ((((o3.set 0 (.int .i64 nK)).set 1 (.int .i64 wK)).set 2 (.int .i64 cK)).set 3 (.int .i64 dK))
      have s0 := o9.cell 0 rfl
      have s1 := o9.cell 1 rfl
      have s2 := o9.cell 2 rfl
      have s3 := o9.cell 3 rfl
      exact bodyPost_ret (v := .tuple #[.agg #[.int .i64 nK, .int .i64 wK, .int .i64 cK, .int .i64 dK], .int .i64 0]) (by simp [results, Try.results35, go_sem, s0, s1, s2, s3]) rfl ⟨rfl, ((((hb.setCell (p := ⟨w.heap.size + 1 + 1, 0, none⟩) (by simp only; omega) (.int .i64 nK)).setCell (p := ⟨w.heap.size + 1 + 1, 1, none⟩) (by simp only; omega) (.int .i64 wK)).setCell (p := ⟨w.heap.size + 1 + 1, 2, none⟩) (by simp only; omega) (.int .i64 cK)).setCell (p := ⟨w.heap.size + 1 + 1, 3, none⟩) (by simp only; omega) (.int .i64 dK))⟩

set_option maxHeartbeats 1000000 in
set_option maxRecDepth 100000 in
theorem refNextC (c : ClockN) (w : World) (hc : OkK c) :
    Calls Try.prog 34 #[valK c] w fun e w' => e = .returned (.tuple #[valK (nextK c), valT (peekK c).1, .int .i64 (peekK c).2]) ∧ Below w.heap.size w w' := by
  have HP := fun v => refPeekC c v hc
  unfold nextK
  obtain ⟨nw, wl, ct, dv⟩ := c
  have hq : (peekK ⟨nw, ⟨wl, ct, dv⟩⟩).2 = 0 ∨ (((peekK ⟨nw, ⟨wl, ct, dv⟩⟩).2 == 0) = false ∧ ¬ (peekK ⟨nw, ⟨wl, ct, dv⟩⟩).2 = 0) := by
    by_cases h : (peekK ⟨nw, ⟨wl, ct, dv⟩⟩).2 = 0
    · exact .inl h
    · exact .inr ⟨beq_eq_false_iff_ne.2 h, h⟩
  generalize peekK ⟨nw, ⟨wl, ct, dv⟩⟩ = P at *
  obtain ⟨⟨a, b, d⟩, er⟩ := P
  unfold valK valT at *
  dsimp only at HP hq ⊢
  obtain ⟨o1, o2, o3, hb⟩ := objs3 w #[.int .i64 nw, .int .i64 wl, .int .i64 ct, .int .i64 dv] #[.int .i64 0, .int .i64 0, .int .i64 0, .int .i64 0] #[.int .i64 0, .int .i64 0, .int .i64 0] 31 31 29
  generalize hv : ((w.alloc (.cells #[.int .i64 nw, .int .i64 wl, .int .i64 ct, .int .i64 dv] 31)).alloc (.cells #[.int .i64 0, .int .i64 0, .int .i64 0, .int .i64 0] 31)).alloc (.cells #[.int .i64 0, .int .i64 0, .int .i64 0] 29) = v at *
  have u0 := o1.cell 0 rfl; have u1 := o1.cell 1 rfl; have u2 := o1.cell 2 rfl; have u3 := o1.cell 3 rfl; skip
  clear hc
  rcases hq with rfl | ⟨q0, q1⟩
  · rw [if_pos rfl]
    go_enter Try.func34, Try.ntmps34
    go_wp2_with (go_at_call 37; (with_reducible refine (HP _).mono ?_); rintro e w1 ⟨rfl, hx⟩; have l3 := Nat.lt_of_lt_of_le o3.lt hx.size; have hx4 := below_alloc w1 (.cells #[.int .i64 a, .int .i64 b, .int .i64 d] 29); have o4 := ObjAt.new w1 #[.int .i64 a, .int .i64 b, .int .i64 d] 29; have hx := hx.trans (hx4.mono hx.size); have o1 := o1.below hx o1.lt; have o2 := o2.below hx o2.lt; have o3 := o3.below hx o3.lt; have hb := hb.trans (hx.mono hb.size); clear hx hx4; generalize hv4 : w1.alloc (.cells #[.int .i64 a, .int .i64 b, .int .i64 d] 29) = v4 at *; have u0 := o1.cell 0 rfl; have u1 := o1.cell 1 rfl; have u2 := o1.cell 2 rfl; have u3 := o1.cell 3 rfl; have v0 := o4.cell 0 rfl; have v1 := o4.cell 1 rfl; have v2 := o4.cell 2 rfl; have r0 := o2.cell 0 rfl; have r1 := o2.cell 1 rfl; have r2 := o2.cell 2 rfl; have r3 := o2.cell 3 rfl; have t0 := o3.cell 0 rfl; have t1 := o3.cell 1 rfl; have t2 := o3.cell 2 rfl; have f0 := o1.free 0; have f1 := o1.free 1; have f2 := o1.free 2; have f3 := o1.free 3; have g0 := o2.free 0; have g1 := o2.free 1; have g2 := o2.free 2; have g3 := o2.free 3; have h0 := o3.free 0; have h1 := o3.free 1; have h2 := o3.free 2)
    have x1 := ((o1.set 1 (.int .i64 a)).set 2 (.int .i64 b)).set 3 (.int .i64 d)
    have x2 := ((o2.other (p := ⟨w.heap.size, 1, none⟩) (by simp only; omega) (.int .i64 a)).other (p := ⟨w.heap.size, 2, none⟩) (by simp only; omega) (.int .i64 b)).other (p := ⟨w.heap.size, 3, none⟩) (by simp only; omega) (.int .i64 d)
    have x3 := ((o3.other (p := ⟨w.heap.size, 1, none⟩) (by simp only; omega) (.int .i64 a)).other (p := ⟨w.heap.size, 2, none⟩) (by simp only; omega) (.int .i64 b)).other (p := ⟨w.heap.size, 3, none⟩) (by simp only; omega) (.int .i64 d)
    have x4 := ((o4.other (p := ⟨w.heap.size, 1, none⟩) (by simp only; omega) (.int .i64 a)).other (p := ⟨w.heap.size, 2, none⟩) (by simp only; omega) (.int .i64 b)).other (p := ⟨w.heap.size, 3, none⟩) (by simp only; omega) (.int .i64 d)
    have hb := ((hb.setCell (p := ⟨w.heap.size, 1, none⟩) (Nat.le_refl _) (.int .i64 a)).setCell (p := ⟨w.heap.size, 2, none⟩) (Nat.le_refl _) (.int .i64 b)).setCell (p := ⟨w.heap.size, 3, none⟩) (Nat.le_refl _) (.int .i64 d)
    generalize ((v4.setCell ⟨w.heap.size, 1, none⟩ (.int .i64 a)).setCell ⟨w.heap.size, 2, none⟩ (.int .i64 b)).setCell ⟨w.heap.size, 3, none⟩ (.int .i64 d) = v5 at *
    clear u0 u1 u2 u3 v0 v1 v2 r0 r1 r2 r3 t0 t1 t2 f0 f1 f2 f3 g0 g1 g2 g3 h0 h1 h2 o1 o2 o3 o4
    have u0 := x1.cell 0 rfl; have u1 := x1.cell 1 rfl; have u2 := x1.cell 2 rfl; have u3 := x1.cell 3 rfl; have v0 := x4.cell 0 rfl; have v1 := x4.cell 1 rfl; have v2 := x4.cell 2 rfl; have r0 := x2.cell 0 rfl; have r1 := x2.cell 1 rfl; have r2 := x2.cell 2 rfl; have r3 := x2.cell 3 rfl; have t0 := x3.cell 0 rfl; have t1 := x3.cell 1 rfl; have t2 := x3.cell 2 rfl; have g0 := x2.free 0; have g1 := x2.free 1; have g2 := x2.free 2; have g3 := x2.free 3; have h0 := x3.free 0; have h1 := x3.free 1; have h2 := x3.free 2
    go_region
    all_goals go_wp2
    have y2 := (((((((x2.set 0 (.int .i64 nw)).set 1 (.int .i64 a)).set 2 (.int .i64 b)).set 3 (.int .i64 d)).other (p := ⟨w.heap.size + 1 + 1, 0, none⟩) (by simp only; omega) (.int .i64 a)).other (p := ⟨w.heap.size + 1 + 1, 1, none⟩) (by simp only; omega) (.int .i64 b)).other (p := ⟨w.heap.size + 1 + 1, 2, none⟩) (by simp only; omega) (.int .i64 d)).drew
    have y3 := (((((((x3.other (p := ⟨w.heap.size + 1, 0, none⟩) (by simp only; omega) (.int .i64 nw)).other (p := ⟨w.heap.size + 1, 1, none⟩) (by simp only; omega) (.int .i64 a)).other (p := ⟨w.heap.size + 1, 2, none⟩) (by simp only; omega) (.int .i64 b)).other (p := ⟨w.heap.size + 1, 3, none⟩) (by simp only; omega) (.int .i64 d)).set 0 (.int .i64 a)).set 1 (.int .i64 b)).set 2 (.int .i64 d)).drew
    have m0 := y2.cell 0 rfl
    have m1 := y2.cell 1 rfl
    have m2 := y2.cell 2 rfl
    have m3 := y2.cell 3 rfl
    have n0 := y3.cell 0 rfl
    have n1 := y3.cell 1 rfl
    have n2 := y3.cell 2 rfl
    exact bodyPost_ret (v := .tuple #[.agg #[.int .i64 nw, .int .i64 a, .int .i64 b, .int .i64 d], .agg #[.int .i64 a, .int .i64 b, .int .i64 d], .int .i64 0]) (by simp [results, Try.results34, go_sem, m0, m1, m2, m3, n0, n1, n2]) rfl ⟨rfl, (((((((hb.setCell (p := ⟨w.heap.size + 1, 0, none⟩) (by simp only; omega) (.int .i64 nw)).setCell (p := ⟨w.heap.size + 1, 1, none⟩) (by simp only; omega) (.int .i64 a)).setCell (p := ⟨w.heap.size + 1, 2, none⟩) (by simp only; omega) (.int .i64 b)).setCell (p := ⟨w.heap.size + 1, 3, none⟩) (by simp only; omega) (.int .i64 d)).setCell (p := ⟨w.heap.size + 1 + 1, 0, none⟩) (by simp only; omega) (.int .i64 a)).setCell (p := ⟨w.heap.size + 1 + 1, 1, none⟩) (by simp only; omega) (.int .i64 b)).setCell (p := ⟨w.heap.size + 1 + 1, 2, none⟩) (by simp only; omega) (.int .i64 d)).drew⟩
  · rw [if_neg q1]
    go_enter Try.func34, Try.ntmps34
    go_wp2_with (go_at_call 37; (with_reducible refine (HP _).mono ?_); rintro e w1 ⟨rfl, hx⟩; have l3 := Nat.lt_of_lt_of_le o3.lt hx.size; have hx4 := below_alloc w1 (.cells #[.int .i64 a, .int .i64 b, .int .i64 d] 29); have o4 := ObjAt.new w1 #[.int .i64 a, .int .i64 b, .int .i64 d] 29; have hx := hx.trans (hx4.mono hx.size); have o1 := o1.below hx o1.lt; have o2 := o2.below hx o2.lt; have o3 := o3.below hx o3.lt; have hb := hb.trans (hx.mono hb.size); clear hx hx4; generalize hv4 : w1.alloc (.cells #[.int .i64 a, .int .i64 b, .int .i64 d] 29) = v4 at *; have u0 := o1.cell 0 rfl; have u1 := o1.cell 1 rfl; have u2 := o1.cell 2 rfl; have u3 := o1.cell 3 rfl; have v0 := o4.cell 0 rfl; have v1 := o4.cell 1 rfl; have v2 := o4.cell 2 rfl; have r0 := o2.cell 0 rfl; have r1 := o2.cell 1 rfl; have r2 := o2.cell 2 rfl; have r3 := o2.cell 3 rfl; have t0 := o3.cell 0 rfl; have t1 := o3.cell 1 rfl; have t2 := o3.cell 2 rfl; have f0 := o1.free 0; have f1 := o1.free 1; have f2 := o1.free 2; have f3 := o1.free 3; have g0 := o2.free 0; have g1 := o2.free 1; have g2 := o2.free 2; have g3 := o2.free 3; have h0 := o3.free 0; have h1 := o3.free 1; have h2 := o3.free 2)
    clear u0 u1 u2 u3 v0 v1 v2 r0 r1 r2 r3 t0 t1 t2 f0 f1 f2 f3 g0 g1 g2 g3 h0 h1 h2
    have u0 := o1.cell 0 rfl; have u1 := o1.cell 1 rfl; have u2 := o1.cell 2 rfl; have u3 := o1.cell 3 rfl; have v0 := o4.cell 0 rfl; have v1 := o4.cell 1 rfl; have v2 := o4.cell 2 rfl; have r0 := o2.cell 0 rfl; have r1 := o2.cell 1 rfl; have r2 := o2.cell 2 rfl; have r3 := o2.cell 3 rfl; have t0 := o3.cell 0 rfl; have t1 := o3.cell 1 rfl; have t2 := o3.cell 2 rfl; have g0 := o2.free 0; have g1 := o2.free 1; have g2 := o2.free 2; have g3 := o2.free 3; have h0 := o3.free 0; have h1 := o3.free 1; have h2 := o3.free 2
    go_region
    all_goals go_wp2
    have y2 := (((((((o2.set 0 (.int .i64 nw)).set 1 (.int .i64 wl)).set 2 (.int .i64 ct)).set 3 (.int .i64 dv)).other (p := ⟨w.heap.size + 1 + 1, 0, none⟩) (by simp only; omega) (.int .i64 a)).other (p := ⟨w.heap.size + 1 + 1, 1, none⟩) (by simp only; omega) (.int .i64 b)).other (p := ⟨w.heap.size + 1 + 1, 2, none⟩) (by simp only; omega) (.int .i64 d)).drew
    have y3 := (((((((o3.other (p := ⟨w.heap.size + 1, 0, none⟩) (by simp only; omega) (.int .i64 nw)).other (p := ⟨w.heap.size + 1, 1, none⟩) (by simp only; omega) (.int .i64 wl)).other (p := ⟨w.heap.size + 1, 2, none⟩) (by simp only; omega) (.int .i64 ct)).other (p := ⟨w.heap.size + 1, 3, none⟩) (by simp only; omega) (.int .i64 dv)).set 0 (.int .i64 a)).set 1 (.int .i64 b)).set 2 (.int .i64 d)).drew
    have m0 := y2.cell 0 rfl
    have m1 := y2.cell 1 rfl
    have m2 := y2.cell 2 rfl
    have m3 := y2.cell 3 rfl
    have n0 := y3.cell 0 rfl
    have n1 := y3.cell 1 rfl
    have n2 := y3.cell 2 rfl
    exact bodyPost_ret (v := .tuple #[.agg #[.int .i64 nw, .int .i64 wl, .int .i64 ct, .int .i64 dv], .agg #[.int .i64 a, .int .i64 b, .int .i64 d], .int .i64 er]) (by simp [results, Try.results34, go_sem, m0, m1, m2, m3, n0, n1, n2]) rfl ⟨rfl, (((((((hb.setCell (p := ⟨w.heap.size + 1, 0, none⟩) (by simp only; omega) (.int .i64 nw)).setCell (p := ⟨w.heap.size + 1, 1, none⟩) (by simp only; omega) (.int .i64 wl)).setCell (p := ⟨w.heap.size + 1, 2, none⟩) (by simp only; omega) (.int .i64 ct)).setCell (p := ⟨w.heap.size + 1, 3, none⟩) (by simp only; omega) (.int .i64 dv)).setCell (p := ⟨w.heap.size + 1 + 1, 0, none⟩) (by simp only; omega) (.int .i64 a)).setCell (p := ⟨w.heap.size + 1 + 1, 1, none⟩) (by simp only; omega) (.int .i64 b)).setCell (p := ⟨w.heap.size + 1 + 1, 2, none⟩) (by simp only; omega) (.int .i64 d)).drew⟩
end Go.Proofs.Ytfdiomghoheljaa
