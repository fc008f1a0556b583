/- Contracts of the reference of layer 19: which stamps may be, which are ahead; the next one; a tick. -/
import Derived.Test.YtfdiomghoheljaaClockPlain
import Derived.Test.YtfdiomghoheljaaKeeps
import Derived.Test.YtfdiomghoheljaaPackPart
import Derived.Deep.RegionHeld3
import Derived.BigQuiet
namespace Go.Proofs.Ytfdiomghoheljaa
open Go.RowKit
set_option linter.unusedVariables false

theorem objs2 (w : World) (A B : Array Value) (a b : TypeId) : ObjAt ((w.alloc (.cells A a)).alloc (.cells B b)) w.heap.size A.toList ∧ ObjAt ((w.alloc (.cells A a)).alloc (.cells B b)) (w.heap.size + 1) B.toList ∧ Below w.heap.size w ((w.alloc (.cells A a)).alloc (.cells B b)) := by
  have h1 := below_alloc w (.cells A a)
  have h2 := below_alloc (w.alloc (.cells A a)) (.cells B b)
  have o1 := ObjAt.new w A a
  have o2 := ObjAt.new (w.alloc (.cells A a)) B b
  rw [World.size_alloc] at o2
  exact ⟨o1.below h2 o1.lt, o2, h1.trans (h2.mono h1.size)⟩
theorem objs3 (w : World) (A B C : Array Value) (a b c : TypeId) : ObjAt (((w.alloc (.cells A a)).alloc (.cells B b)).alloc (.cells C c)) w.heap.size A.toList ∧ ObjAt (((w.alloc (.cells A a)).alloc (.cells B b)).alloc (.cells C c)) (w.heap.size + 1) B.toList ∧ ObjAt (((w.alloc (.cells A a)).alloc (.cells B b)).alloc (.cells C c)) (w.heap.size + 1 + 1) C.toList ∧ Below w.heap.size w (((w.alloc (.cells A a)).alloc (.cells B b)).alloc (.cells C c)) := by
  obtain ⟨o1, o2, h2⟩ := objs2 w A B a b
  have h3 := below_alloc ((w.alloc (.cells A a)).alloc (.cells B b)) (.cells C c)
  have o3 := ObjAt.new ((w.alloc (.cells A a)).alloc (.cells B b)) C c
  rw [World.size_alloc, World.size_alloc] at o3
  exact ⟨o1.below h3 o1.lt, o2.below h3 o2.lt, o3, h2.trans (h3.mono h2.size)⟩

def valT (s : StampN) : Value := .agg #[.int .i64 s.wall, .int .i64 s.count, .int .i64 s.dev]
def valK (c : ClockN) : Value := .agg #[.int .i64 c.now, .int .i64 c.last.wall, .int .i64 c.last.count, .int .i64 c.last.dev]

set_option maxRecDepth 100000 in
theorem refTRightC (s : StampN) (w : World) :
    Calls Try.prog 22 #[valT s] w fun e w' => e = .returned (.bool (rightT s)) ∧ Below w.heap.size w w' := by
  obtain ⟨a, b, d⟩ := s
  unfold valT rightT
  dsimp only
  have o1 := ObjAt.new w #[.int .i64 a, .int .i64 b, .int .i64 d] 29
  have hb := below_alloc w (.cells #[.int .i64 a, .int .i64 b, .int .i64 d] 29)
  have u0 := o1.cell 0 rfl; have u1 := o1.cell 1 rfl; have u2 := o1.cell 2 rfl
  clear o1
  by_cases q0 : 0 ≤ a
  · have d0 : decide (0 ≤ a) = true := decide_eq_true q0
    by_cases q1 : a ≤ 4398046511104
    · have d1 : decide (a ≤ 4398046511104) = true := decide_eq_true q1
      by_cases q2 : 0 ≤ b
      · have d2 : decide (0 ≤ b) = true := decide_eq_true q2
        by_cases q3 : b ≤ 65535
        · have d3 : decide (b ≤ 65535) = true := decide_eq_true q3
          by_cases q4 : 0 ≤ d
          · have d4 : decide (0 ≤ d) = true := decide_eq_true q4
            by_cases q5 : d ≤ 63
            · have d5 : decide (d ≤ 63) = true := decide_eq_true q5
              go_enter Try.func22, Try.ntmps22
              go_wp2
              go_ret
              exact ⟨by simp [*], hb⟩
            · have d5 : decide (d ≤ 63) = false := decide_eq_false q5
              go_enter Try.func22, Try.ntmps22
              go_wp2
              go_ret
              exact ⟨by simp [*], hb⟩
          · have d4 : decide (0 ≤ d) = false := decide_eq_false q4
            go_enter Try.func22, Try.ntmps22
            go_wp2
            go_ret
            exact ⟨by simp [*], hb⟩
        · have d3 : decide (b ≤ 65535) = false := decide_eq_false q3
          go_enter Try.func22, Try.ntmps22
          go_wp2
          go_ret
          exact ⟨by simp [*], hb⟩
      · have d2 : decide (0 ≤ b) = false := decide_eq_false q2
        go_enter Try.func22, Try.ntmps22
        go_wp2
        go_ret
        exact ⟨by simp [*], hb⟩
    · have d1 : decide (a ≤ 4398046511104) = false := decide_eq_false q1
      go_enter Try.func22, Try.ntmps22
      go_wp2
      go_ret
      exact ⟨by simp [*], hb⟩
  · have d0 : decide (0 ≤ a) = false := decide_eq_false q0
    go_enter Try.func22, Try.ntmps22
    go_wp2
    go_ret
    exact ⟨by simp [*], hb⟩

set_option maxRecDepth 100000 in
theorem refTLessC (s t : StampN) (w : World) :
    Calls Try.prog 15 #[valT s, valT t] w fun e w' => e = .returned (.bool (lessT s t)) ∧ Below w.heap.size w w' := by
  obtain ⟨a, b, d⟩ := s
  obtain ⟨f, g, h⟩ := t
  unfold valT lessT
  dsimp only
  obtain ⟨o1, o2, hb⟩ := objs2 w #[.int .i64 a, .int .i64 b, .int .i64 d] #[.int .i64 f, .int .i64 g, .int .i64 h] 29 29
  have u0 := o1.cell 0 rfl; have u1 := o1.cell 1 rfl; have u2 := o1.cell 2 rfl
  have v0 := o2.cell 0 rfl; have v1 := o2.cell 1 rfl; have v2 := o2.cell 2 rfl
  clear o1 o2
  by_cases q0 : a = f
  · subst q0
    rw [if_neg (by simp)]
    by_cases q1 : b = g
    · subst q1
      rw [if_neg (by simp)]
      go_enter Try.func15, Try.ntmps15
      go_wp2
      go_ret
      exact ⟨rfl, hb⟩
    · rw [if_pos q1]
      go_enter Try.func15, Try.ntmps15
      go_wp2
      go_ret
      exact ⟨rfl, hb⟩
  · rw [if_pos q0]
    go_enter Try.func15, Try.ntmps15
    go_wp2
    go_ret
    exact ⟨rfl, hb⟩

set_option maxRecDepth 100000 in
theorem refPeekC (c : ClockN) (w : World) (hc : OkK c) :
    Calls Try.prog 37 #[valK c] w fun e w' => e = .returned (.tuple #[valT (peekK c).1, .int .i64 (peekK c).2]) ∧ Below w.heap.size w w' := by
  have hr := rightT_iff.1 hc.right
  obtain ⟨nw, wl, ct, dv⟩ := c
  unfold valK valT peekK
  dsimp only at hr ⊢
  obtain ⟨o1, o2, hb⟩ := objs2 w #[.int .i64 nw, .int .i64 wl, .int .i64 ct, .int .i64 dv] #[.int .i64 0, .int .i64 0, .int .i64 0] 31 29
  generalize hv : (w.alloc (.cells #[.int .i64 nw, .int .i64 wl, .int .i64 ct, .int .i64 dv] 31)).alloc (.cells #[.int .i64 0, .int .i64 0, .int .i64 0] 29) = v at *
  have u0 := o1.cell 0 rfl; have u1 := o1.cell 1 rfl; have u2 := o1.cell 2 rfl; have u3 := o1.cell 3 rfl; skip
  have r0 := o2.cell 0 rfl; have r1 := o2.cell 1 rfl; have r2 := o2.cell 2 rfl; skip
  have g0 := o2.free 0; have g1 := o2.free 1; have g2 := o2.free 2; skip
  clear hc
  by_cases q0 : wl < nw
  · rw [if_pos q0]
    go_enter Try.func37, Try.ntmps37
    go_wp2
    have o9 := (((o2.set 0 (.int .i64 nw)).set 1 (.int .i64 0)).set 2 (.int .i64 dv))
    have s0 := o9.cell 0 rfl
    have s1 := o9.cell 1 rfl
    have s2 := o9.cell 2 rfl
    exact bodyPost_ret (v := .tuple #[.agg #[.int .i64 nw, .int .i64 0, .int .i64 dv], .int .i64 0]) (by simp [results, Try.results37, go_sem, s0, s1, s2]) rfl ⟨rfl, (((hb.setCell (p := ⟨w.heap.size + 1, 0, none⟩) (by simp) (.int .i64 nw)).setCell (p := ⟨w.heap.size + 1, 1, none⟩) (by simp) (.int .i64 0)).setCell (p := ⟨w.heap.size + 1, 2, none⟩) (by simp) (.int .i64 dv))⟩
  · rw [if_neg q0]
    by_cases q1 : 65535 ≤ ct
    · rw [if_pos q1]
      go_enter Try.func37, Try.ntmps37
      go_wp2
      have o9 := (((o2.set 0 (.int .i64 0)).set 1 (.int .i64 0)).set 2 (.int .i64 0))
      have s0 := o9.cell 0 rfl
      have s1 := o9.cell 1 rfl
      have s2 := o9.cell 2 rfl
      exact bodyPost_ret (v := .tuple #[.agg #[.int .i64 0, .int .i64 0, .int .i64 0], .int .i64 7]) (by simp [results, Try.results37, go_sem, s0, s1, s2]) rfl ⟨rfl, (((hb.setCell (p := ⟨w.heap.size + 1, 0, none⟩) (by simp) (.int .i64 0)).setCell (p := ⟨w.heap.size + 1, 1, none⟩) (by simp) (.int .i64 0)).setCell (p := ⟨w.heap.size + 1, 2, none⟩) (by simp) (.int .i64 0))⟩
    · rw [if_neg q1]
      go_enter Try.func37, Try.ntmps37
      go_wp2
      have o9 := (((o2.set 0 (.int .i64 wl)).set 1 (.int .i64 (ct + 1))).set 2 (.int .i64 dv))
      have s0 := o9.cell 0 rfl
      have s1 := o9.cell 1 rfl
      have s2 := o9.cell 2 rfl
      exact bodyPost_ret (v := .tuple #[.agg #[.int .i64 wl, .int .i64 (ct + 1), .int .i64 dv], .int .i64 0]) (by simp [results, Try.results37, go_sem, s0, s1, s2]) rfl ⟨rfl, (((hb.setCell (p := ⟨w.heap.size + 1, 0, none⟩) (by simp) (.int .i64 wl)).setCell (p := ⟨w.heap.size + 1, 1, none⟩) (by simp) (.int .i64 (ct + 1))).setCell (p := ⟨w.heap.size + 1, 2, none⟩) (by simp) (.int .i64 dv))⟩

set_option maxRecDepth 100000 in
theorem refTickC (c : ClockN) (ms : Int) (w : World) (hc : OkK c) (hm : -9223372036854775808 ≤ ms ∧ ms ≤ 9223372036854775807) :
    Calls Try.prog 33 #[valK c, .int .i64 ms] w fun e w' => e = .returned (.tuple #[valK (tickK c ms).1, .int .i64 (tickK c ms).2]) ∧ Below w.heap.size w w' := by
  obtain ⟨h0, h1, -⟩ := hc
  obtain ⟨nw, wl, ct, dv⟩ := c
  unfold valK tickK
  dsimp only at h0 h1 ⊢
  obtain ⟨o1, o2, hb⟩ := objs2 w #[.int .i64 nw, .int .i64 wl, .int .i64 ct, .int .i64 dv] #[.int .i64 0, .int .i64 0, .int .i64 0, .int .i64 0] 31 31
  generalize hv : (w.alloc (.cells #[.int .i64 nw, .int .i64 wl, .int .i64 ct, .int .i64 dv] 31)).alloc (.cells #[.int .i64 0, .int .i64 0, .int .i64 0, .int .i64 0] 31) = v at *
  have u0 := o1.cell 0 rfl; have u1 := o1.cell 1 rfl; have u2 := o1.cell 2 rfl; have u3 := o1.cell 3 rfl; skip
  have r0 := o2.cell 0 rfl; have r1 := o2.cell 1 rfl; have r2 := o2.cell 2 rfl; have r3 := o2.cell 3 rfl; skip
  have f0 := o1.free 0; have f1 := o1.free 1; have f2 := o1.free 2; have f3 := o1.free 3; skip
  have g0 := o2.free 0; have g1 := o2.free 1; have g2 := o2.free 2; have g3 := o2.free 3; skip
  by_cases q0 : ms < 0
  · rw [if_pos (.inl q0)]
    have d0 : decide (ms < 0) = true := decide_eq_true q0
    go_enter Try.func33, Try.ntmps33
    go_wp2
    have o9 := ((((o2.set 0 (.int .i64 nw)).set 1 (.int .i64 wl)).set 2 (.int .i64 ct)).set 3 (.int .i64 dv))
    have s0 := o9.cell 0 rfl
    have s1 := o9.cell 1 rfl
    have s2 := o9.cell 2 rfl
    have s3 := o9.cell 3 rfl
    exact bodyPost_ret (v := .tuple #[.agg #[.int .i64 nw, .int .i64 wl, .int .i64 ct, .int .i64 dv], .int .i64 4]) (by simp [results, Try.results33, go_sem, s0, s1, s2, s3]) rfl ⟨rfl, ((((hb.setCell (p := ⟨w.heap.size + 1, 0, none⟩) (by simp) (.int .i64 nw)).setCell (p := ⟨w.heap.size + 1, 1, none⟩) (by simp) (.int .i64 wl)).setCell (p := ⟨w.heap.size + 1, 2, none⟩) (by simp) (.int .i64 ct)).setCell (p := ⟨w.heap.size + 1, 3, none⟩) (by simp) (.int .i64 dv))⟩
  · have d0 : decide (ms < 0) = false := decide_eq_false q0
    by_cases q1 : 4398046511104 - nw < ms
    · rw [if_pos (.inr q1)]
      go_enter Try.func33, Try.ntmps33
      go_wp2
      have o9 := ((((o2.set 0 (.int .i64 nw)).set 1 (.int .i64 wl)).set 2 (.int .i64 ct)).set 3 (.int .i64 dv))
      have s0 := o9.cell 0 rfl
      have s1 := o9.cell 1 rfl
      have s2 := o9.cell 2 rfl
      have s3 := o9.cell 3 rfl
      exact bodyPost_ret (v := .tuple #[.agg #[.int .i64 nw, .int .i64 wl, .int .i64 ct, .int .i64 dv], .int .i64 4]) (by simp [results, Try.results33, go_sem, s0, s1, s2, s3]) rfl ⟨rfl, ((((hb.setCell (p := ⟨w.heap.size + 1, 0, none⟩) (by simp) (.int .i64 nw)).setCell (p := ⟨w.heap.size + 1, 1, none⟩) (by simp) (.int .i64 wl)).setCell (p := ⟨w.heap.size + 1, 2, none⟩) (by simp) (.int .i64 ct)).setCell (p := ⟨w.heap.size + 1, 3, none⟩) (by simp) (.int .i64 dv))⟩
    · rw [if_neg (by intro h; rcases h with h | h <;> omega)]
      go_enter Try.func33, Try.ntmps33
      go_wp2
      have o9 := (((((o2.other (p := ⟨w.heap.size, 0, none⟩) (by simp) (.int .i64 (nw + ms))).set 0 (.int .i64 (nw + ms))).set 1 (.int .i64 wl)).set 2 (.int .i64 ct)).set 3 (.int .i64 dv))
      have s0 := o9.cell 0 rfl
      have s1 := o9.cell 1 rfl
      have s2 := o9.cell 2 rfl
      have s3 := o9.cell 3 rfl
      exact bodyPost_ret (v := .tuple #[.agg #[.int .i64 (nw + ms), .int .i64 wl, .int .i64 ct, .int .i64 dv], .int .i64 0]) (by simp [results, Try.results33, go_sem, s0, s1, s2, s3]) rfl ⟨rfl, (((((hb.setCell (p := ⟨w.heap.size, 0, none⟩) (by simp) (.int .i64 (nw + ms))).setCell (p := ⟨w.heap.size + 1, 0, none⟩) (by simp) (.int .i64 (nw + ms))).setCell (p := ⟨w.heap.size + 1, 1, none⟩) (by simp) (.int .i64 wl)).setCell (p := ⟨w.heap.size + 1, 2, none⟩) (by simp) (.int .i64 ct)).setCell (p := ⟨w.heap.size + 1, 3, none⟩) (by simp) (.int .i64 dv))⟩
end Go.Proofs.Ytfdiomghoheljaa
