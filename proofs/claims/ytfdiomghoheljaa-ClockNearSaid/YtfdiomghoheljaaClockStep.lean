/- A step of layer 19's laws, done by the program's clock and the document's. -/
import Derived.Test.YtfdiomghoheljaaClockLaw
namespace Go.Proofs.Ytfdiomghoheljaa
open Go.RowKit
set_option linter.unusedVariables false

def StepIs (p : Nat) (F : Nat → Prop) (c : ClockN) (w : World) (e : Ending) (w' : World) : Prop :=
  e = .returned (.tuple #[valK c, .bool true]) ∧ ∃ F', ClkAt w' p F' c ∧ Keeps F w w' ∧ ∀ k, F' k → F k ∨ w.heap.size ≤ k
theorem keeps_drew {F : Nat → Prop} {w w' : World} (h : Keeps F w w') : Keeps F w w'.drew := ⟨h.os, h.tape, h.output, h.size, h.block⟩
theorem step_end {p : Nat} {F F3 : Nat → Prop} {c : ClockN} {w v w3 w4 : World} {B : Nat} (hlt : ∀ k, F k → k < w.heap.size) (hb : Below w.heap.size w v) (hB0 : w.heap.size ≤ B) (hB : B < v.heap.size) (k3 : ClkAt w3 p F3 c) (hk : Keeps F v w3) (n3 : ∀ k, F3 k → F k ∨ v.heap.size ≤ k) (h4 : Keeps (fun k => k = B) w3 w4) :
    ∃ F', ClkAt w4 p F' c ∧ Keeps F w w4 ∧ ∀ k, F' k → F k ∨ w.heap.size ≤ k :=
  ⟨F3, k3.keeps h4 (fun k h e => (n3 k h).elim (fun h1 => by have := hlt k h1; omega) (fun h1 => by omega)), ((Keeps.new hb).trans hk (fun _ _ h => h)).trans h4 (fun k h1 h2 => by omega), fun k h => (n3 k h).imp id (fun h1 => Nat.le_trans hb.size h1)⟩

set_option maxHeartbeats 4000000 in
set_option maxRecDepth 100000 in
theorem stepC (p : Nat) (F : Nat → Prop) (c : ClockN) (s : StepN) (w : World) (h : ClkAt w p F c) (hn : -9223372036854775808 ≤ s.n ∧ s.n ≤ 9223372036854775807) (hs : FitT s.s) :
    Calls Try.prog 10 #[.pointer (some ⟨p, 0, none⟩), valK c, .agg #[.int .i64 s.kind, .int .i64 s.n, .int .i64 s.s.wall, .int .i64 s.s.count, .int .i64 s.s.dev]] w (StepIs p F (stepK c s) w) := by
  have hok := h.ok
  have H1a := fun v => refTickC c s.n v hok hn
  have H1b := fun v h => kTickC p F c s.n v h hn
  have H2a := fun v => refNextC c v hok
  have H2b := fun v h => kNextC p F c v h
  have H3a := fun v => refHearC c s.s v hok
  have H3b := fun v h => kHearC p F c s.s v h hs
  have H4a := fun v => refRestoreC c s.s v
  have H4b := fun v h => kRestoreC p F c s.s v h hs
  have H5a := fun v => refPeekC c v hok
  have H5b := fun v h => kPeekC p F c v h
  unfold StepIs stepK
  unfold KChanged at H1b H2b H3b H4b
  generalize tickK c s.n = X1 at *
  generalize nextK c = X2 at *
  generalize hearK c s.s = X3 at *
  generalize restoreK c s.s = X4 at *
  generalize peekK c = X5 at *
  obtain ⟨ki, n, a, b, d⟩ := s
  obtain ⟨nw, wl, ct, dv⟩ := c
  clear hok hn hs
  unfold valT valK at *
  dsimp only at *
  obtain ⟨o4, o5, o6, hb⟩ := objs3 w #[.int .i64 nw, .int .i64 wl, .int .i64 ct, .int .i64 dv] #[.int .i64 ki, .int .i64 n, .int .i64 a, .int .i64 b, .int .i64 d] #[.int .i64 0, .int .i64 0, .int .i64 0, .int .i64 0] 31 35 31
  generalize hv : ((w.alloc (.cells #[.int .i64 nw, .int .i64 wl, .int .i64 ct, .int .i64 dv] 31)).alloc (.cells #[.int .i64 ki, .int .i64 n, .int .i64 a, .int .i64 b, .int .i64 d] 35)).alloc (.cells #[.int .i64 0, .int .i64 0, .int .i64 0, .int .i64 0] 31) = v at *
  have hkv := h.keeps (Keeps.new (F := fun _ => False) hb) (fun _ _ h => h)
  have hlt := h.lt
  have u0 := o4.cell 0 rfl; have u1 := o4.cell 1 rfl; have u2 := o4.cell 2 rfl; have u3 := o4.cell 3 rfl; skip
  have s0 := o5.cell 0 rfl; have s1 := o5.cell 1 rfl; have s2 := o5.cell 2 rfl; have s3 := o5.cell 3 rfl; have s4 := o5.cell 4 rfl; skip
  have r0 := o6.cell 0 rfl; have r1 := o6.cell 1 rfl; have r2 := o6.cell 2 rfl; have r3 := o6.cell 3 rfl; skip
  have g0 := o6.free 0; have g1 := o6.free 1; have g2 := o6.free 2; have g3 := o6.free 3; skip
  have l6 := o6.lt
  by_cases q1 : ki = 1
  · subst q1
    rw [if_pos rfl]
    obtain ⟨⟨nK, wK, cK, dK⟩, er⟩ := X1
    dsimp only at *
    go_enter Try.func10, Try.ntmps10
    go_wp2_with (go_at_call 33; (with_reducible refine (H1a _).mono ?_); rintro e w1 ⟨rfl, hx⟩; have hz1 := hx.size; have y1 := below_alloc w1 (.cells #[.int .i64 nK, .int .i64 wK, .int .i64 cK, .int .i64 dK] 31); have ox := ObjAt.new w1 #[.int .i64 nK, .int .i64 wK, .int .i64 cK, .int .i64 dK] 31; have hx := hx.trans (y1.mono hx.size); have k4 := hkv.below hx; have o5 := o5.below hx o5.lt; have o6 := o6.below hx o6.lt; have hb := hb.trans (hx.mono hb.size); clear hx y1; generalize hv4 : w1.alloc (.cells #[.int .i64 nK, .int .i64 wK, .int .i64 cK, .int .i64 dK] 31) = v4 at *)
    have ox := ox.drew
    have o5 := o5.drew
    have o6 := o6.drew
    have k4 := k4.below ((Below.refl v4.heap.size v4).drew)
    have hb := hb.drew
    have lx := o6.lt
    have lox : v.heap.size ≤ w1.heap.size := hz1
    clear u0 u1 u2 u3 s0 s1 s2 s3 s4 r0 r1 r2 r3 g0 g1 g2 g3
    have u0 := ox.cell 0 rfl; have u1 := ox.cell 1 rfl; have u2 := ox.cell 2 rfl; have u3 := ox.cell 3 rfl; have s0 := o5.cell 0 rfl; have s1 := o5.cell 1 rfl; have s2 := o5.cell 2 rfl; have s3 := o5.cell 3 rfl; have s4 := o5.cell 4 rfl; have r0 := o6.cell 0 rfl; have r1 := o6.cell 1 rfl; have r2 := o6.cell 2 rfl; have r3 := o6.cell 3 rfl; have g0 := o6.free 0; have g1 := o6.free 1; have g2 := o6.free 2; have g3 := o6.free 3
    go_region_law (first
      | ((try go_simp); go_at_call 13; (with_reducible refine (H1b _ k4).mono ?_); rintro e w3 ⟨rfl, F3, k3, hk3, n3⟩; have ox3 := ox.keeps hk3 (fun h => by have := hlt _ h; omega); have o53 := o5.keeps hk3 (fun h => by have := hlt _ h; omega); have o63 := o6.keeps hk3 (fun h => by have := hlt _ h; omega); have u0 := ox3.cell 0 rfl; have u1 := ox3.cell 1 rfl; have u2 := ox3.cell 2 rfl; have u3 := ox3.cell 3 rfl; have s0 := o53.cell 0 rfl; have s1 := o53.cell 1 rfl; have s2 := o53.cell 2 rfl; have s3 := o53.cell 3 rfl; have s4 := o53.cell 4 rfl; have r0 := o63.cell 0 rfl; have r1 := o63.cell 1 rfl; have r2 := o63.cell 2 rfl; have r3 := o63.cell 3 rfl; have g0 := o63.free 0; have g1 := o63.free 1; have g2 := o63.free 2; have g3 := o63.free 3))
    all_goals (
      go_wp2_with fail
      have o9 := ((((o63.set 0 (.int .i64 nK)).set 1 (.int .i64 wK)).set 2 (.int .i64 cK)).set 3 (.int .i64 dK))
      have m0 := o9.cell 0 rfl
      have m1 := o9.cell 1 rfl
      have m2 := o9.cell 2 rfl
      have m3 := o9.cell 3 rfl
      exact bodyPost_ret (v := .tuple #[.agg #[.int .i64 nK, .int .i64 wK, .int .i64 cK, .int .i64 dK], .bool true]) (by simp [results, Try.results10, go_sem, m0, m1, m2, m3]) rfl ⟨rfl, step_end hlt hb (by omega) lx k3 hk3 n3 (((((Keeps.refl (fun k => k = w.heap.size + 1 + 1) w3).setCell (x := ⟨w.heap.size + 1 + 1, 0, none⟩) rfl (.int .i64 nK)).setCell (x := ⟨w.heap.size + 1 + 1, 1, none⟩) rfl (.int .i64 wK)).setCell (x := ⟨w.heap.size + 1 + 1, 2, none⟩) rfl (.int .i64 cK)).setCell (x := ⟨w.heap.size + 1 + 1, 3, none⟩) rfl (.int .i64 dK))⟩)
  rw [if_neg q1]
  have e1 : (ki == 1) = false := beq_eq_false_iff_ne.2 q1
  by_cases q2 : ki = 2
  · subst q2
    rw [if_pos rfl]
    obtain ⟨nK, wK, cK, dK⟩ := X2
    obtain ⟨⟨a2, b2, d2⟩, er⟩ := X5
    dsimp only at *
    have hE := eqStamp a2 b2 d2
    go_enter Try.func10, Try.ntmps10
    go_wp2_with (first
      | (go_at_call 34; (with_reducible refine (H2a _).mono ?_); rintro e w1 ⟨rfl, hx⟩; have hz1 := hx.size; obtain ⟨ox, ot, y1⟩ := objs2 w1 #[.int .i64 nK, .int .i64 wK, .int .i64 cK, .int .i64 dK] #[.int .i64 a2, .int .i64 b2, .int .i64 d2] 31 29; have hx := hx.trans (y1.mono hx.size); have k4 := hkv.below hx; have o6 := o6.below hx o6.lt; have hb := hb.trans (hx.mono hb.size); clear hx y1; generalize hv4 : (w1.alloc (.cells #[.int .i64 nK, .int .i64 wK, .int .i64 cK, .int .i64 dK] 31)).alloc (.cells #[.int .i64 a2, .int .i64 b2, .int .i64 d2] 29) = v4 at *)
      | (go_at_call 14; (with_reducible refine (H2b _ k4).mono ?_); rintro e w3 ⟨rfl, F3, k3, hk3, n3⟩; have lx4 := o6.lt; have ox := ox.keeps hk3 (fun h => by have := hlt _ h; omega); have ot := ot.keeps hk3 (fun h => by have := hlt _ h; omega); have o6 := o6.keeps hk3 (fun h => by have := hlt _ h; omega); have y3 := below_alloc w3 (.cells #[.int .i64 a2, .int .i64 b2, .int .i64 d2] 29); have ou := ObjAt.new w3 #[.int .i64 a2, .int .i64 b2, .int .i64 d2] 29; have ox := ox.below y3 ox.lt; have ot := ot.below y3 ot.lt; have o6 := o6.below y3 o6.lt; have k5 := k3.below y3; have hk5 := hk3.trans (Keeps.new (F := F) y3) (fun _ _ h => h); generalize hv5 : w3.alloc (.cells #[.int .i64 a2, .int .i64 b2, .int .i64 d2] 29) = v5 at *))
    clear u0 u1 u2 u3 s0 s1 s2 s3 s4 r0 r1 r2 r3 g0 g1 g2 g3
    have u0 := ox.cell 0 rfl; have u1 := ox.cell 1 rfl; have u2 := ox.cell 2 rfl; have u3 := ox.cell 3 rfl; have t0 := ot.cell 0 rfl; have t1 := ot.cell 1 rfl; have t2 := ot.cell 2 rfl; have j0 := ou.cell 0 rfl; have j1 := ou.cell 1 rfl; have j2 := ou.cell 2 rfl; have r0 := o6.cell 0 rfl; have r1 := o6.cell 1 rfl; have r2 := o6.cell 2 rfl; have r3 := o6.cell 3 rfl; have g0 := o6.free 0; have g1 := o6.free 1; have g2 := o6.free 2; have g3 := o6.free 3
    have hee : (er == er) = true := by simp
    go_region
    all_goals (
      go_wp2_with fail
      have o9 := ObjAt.drew ((((o6.set 0 (.int .i64 nK)).set 1 (.int .i64 wK)).set 2 (.int .i64 cK)).set 3 (.int .i64 dK))
      have m0 := o9.cell 0 rfl
      have m1 := o9.cell 1 rfl
      have m2 := o9.cell 2 rfl
      have m3 := o9.cell 3 rfl
      exact bodyPost_ret (v := .tuple #[.agg #[.int .i64 nK, .int .i64 wK, .int .i64 cK, .int .i64 dK], .bool true]) (by simp [results, Try.results10, go_sem, m0, m1, m2, m3]) rfl ⟨rfl, step_end hlt hb (by omega) lx4 k5 hk5 n3 (keeps_drew (((((Keeps.refl (fun k => k = w.heap.size + 1 + 1) v5).setCell (x := ⟨w.heap.size + 1 + 1, 0, none⟩) rfl (.int .i64 nK)).setCell (x := ⟨w.heap.size + 1 + 1, 1, none⟩) rfl (.int .i64 wK)).setCell (x := ⟨w.heap.size + 1 + 1, 2, none⟩) rfl (.int .i64 cK)).setCell (x := ⟨w.heap.size + 1 + 1, 3, none⟩) rfl (.int .i64 dK)))⟩)
  rw [if_neg q2]
  have e2 : (ki == 2) = false := beq_eq_false_iff_ne.2 q2
  by_cases q3 : ki = 3
  · subst q3
    rw [if_pos rfl]
    obtain ⟨⟨nK, wK, cK, dK⟩, er⟩ := X3
    dsimp only at *
    go_enter Try.func10, Try.ntmps10
    go_wp2_with (go_at_call 35; (with_reducible refine (H3a _).mono ?_); rintro e w1 ⟨rfl, hx⟩; have hz1 := hx.size; have y1 := below_alloc w1 (.cells #[.int .i64 nK, .int .i64 wK, .int .i64 cK, .int .i64 dK] 31); have ox := ObjAt.new w1 #[.int .i64 nK, .int .i64 wK, .int .i64 cK, .int .i64 dK] 31; have hx := hx.trans (y1.mono hx.size); have k4 := hkv.below hx; have o5 := o5.below hx o5.lt; have o6 := o6.below hx o6.lt; have hb := hb.trans (hx.mono hb.size); clear hx y1; generalize hv4 : w1.alloc (.cells #[.int .i64 nK, .int .i64 wK, .int .i64 cK, .int .i64 dK] 31) = v4 at *)
    have ox := ox.drew
    have o5 := o5.drew
    have o6 := o6.drew
    have k4 := k4.below ((Below.refl v4.heap.size v4).drew)
    have hb := hb.drew
    have lx := o6.lt
    have lox : v.heap.size ≤ w1.heap.size := hz1
    clear u0 u1 u2 u3 s0 s1 s2 s3 s4 r0 r1 r2 r3 g0 g1 g2 g3
    have u0 := ox.cell 0 rfl; have u1 := ox.cell 1 rfl; have u2 := ox.cell 2 rfl; have u3 := ox.cell 3 rfl; have s0 := o5.cell 0 rfl; have s1 := o5.cell 1 rfl; have s2 := o5.cell 2 rfl; have s3 := o5.cell 3 rfl; have s4 := o5.cell 4 rfl; have r0 := o6.cell 0 rfl; have r1 := o6.cell 1 rfl; have r2 := o6.cell 2 rfl; have r3 := o6.cell 3 rfl; have g0 := o6.free 0; have g1 := o6.free 1; have g2 := o6.free 2; have g3 := o6.free 3
    go_region_law (first
      | ((try go_simp); go_at_call 16; (with_reducible refine (H3b _ k4).mono ?_); rintro e w3 ⟨rfl, F3, k3, hk3, n3⟩; have ox3 := ox.keeps hk3 (fun h => by have := hlt _ h; omega); have o53 := o5.keeps hk3 (fun h => by have := hlt _ h; omega); have o63 := o6.keeps hk3 (fun h => by have := hlt _ h; omega); have u0 := ox3.cell 0 rfl; have u1 := ox3.cell 1 rfl; have u2 := ox3.cell 2 rfl; have u3 := ox3.cell 3 rfl; have s0 := o53.cell 0 rfl; have s1 := o53.cell 1 rfl; have s2 := o53.cell 2 rfl; have s3 := o53.cell 3 rfl; have s4 := o53.cell 4 rfl; have r0 := o63.cell 0 rfl; have r1 := o63.cell 1 rfl; have r2 := o63.cell 2 rfl; have r3 := o63.cell 3 rfl; have g0 := o63.free 0; have g1 := o63.free 1; have g2 := o63.free 2; have g3 := o63.free 3))
    all_goals (
      go_wp2_with fail
      have o9 := ((((o63.set 0 (.int .i64 nK)).set 1 (.int .i64 wK)).set 2 (.int .i64 cK)).set 3 (.int .i64 dK))
      have m0 := o9.cell 0 rfl
      have m1 := o9.cell 1 rfl
      have m2 := o9.cell 2 rfl
      have m3 := o9.cell 3 rfl
      exact bodyPost_ret (v := .tuple #[.agg #[.int .i64 nK, .int .i64 wK, .int .i64 cK, .int .i64 dK], .bool true]) (by simp [results, Try.results10, go_sem, m0, m1, m2, m3]) rfl ⟨rfl, step_end hlt hb (by omega) lx k3 hk3 n3 (((((Keeps.refl (fun k => k = w.heap.size + 1 + 1) w3).setCell (x := ⟨w.heap.size + 1 + 1, 0, none⟩) rfl (.int .i64 nK)).setCell (x := ⟨w.heap.size + 1 + 1, 1, none⟩) rfl (.int .i64 wK)).setCell (x := ⟨w.heap.size + 1 + 1, 2, none⟩) rfl (.int .i64 cK)).setCell (x := ⟨w.heap.size + 1 + 1, 3, none⟩) rfl (.int .i64 dK))⟩)
  rw [if_neg q3]
  have e3 : (ki == 3) = false := beq_eq_false_iff_ne.2 q3
  by_cases q4 : ki = 4
  · subst q4
    rw [if_pos rfl]
    obtain ⟨⟨nK, wK, cK, dK⟩, er⟩ := X4
    dsimp only at *
    go_enter Try.func10, Try.ntmps10
    go_wp2_with (go_at_call 36; (with_reducible refine (H4a _).mono ?_); rintro e w1 ⟨rfl, hx⟩; have hz1 := hx.size; have y1 := below_alloc w1 (.cells #[.int .i64 nK, .int .i64 wK, .int .i64 cK, .int .i64 dK] 31); have ox := ObjAt.new w1 #[.int .i64 nK, .int .i64 wK, .int .i64 cK, .int .i64 dK] 31; have hx := hx.trans (y1.mono hx.size); have k4 := hkv.below hx; have o5 := o5.below hx o5.lt; have o6 := o6.below hx o6.lt; have hb := hb.trans (hx.mono hb.size); clear hx y1; generalize hv4 : w1.alloc (.cells #[.int .i64 nK, .int .i64 wK, .int .i64 cK, .int .i64 dK] 31) = v4 at *)
    have ox := ox.drew
    have o5 := o5.drew
    have o6 := o6.drew
    have k4 := k4.below ((Below.refl v4.heap.size v4).drew)
    have hb := hb.drew
    have lx := o6.lt
    have lox : v.heap.size ≤ w1.heap.size := hz1
    clear u0 u1 u2 u3 s0 s1 s2 s3 s4 r0 r1 r2 r3 g0 g1 g2 g3
    have u0 := ox.cell 0 rfl; have u1 := ox.cell 1 rfl; have u2 := ox.cell 2 rfl; have u3 := ox.cell 3 rfl; have s0 := o5.cell 0 rfl; have s1 := o5.cell 1 rfl; have s2 := o5.cell 2 rfl; have s3 := o5.cell 3 rfl; have s4 := o5.cell 4 rfl; have r0 := o6.cell 0 rfl; have r1 := o6.cell 1 rfl; have r2 := o6.cell 2 rfl; have r3 := o6.cell 3 rfl; have g0 := o6.free 0; have g1 := o6.free 1; have g2 := o6.free 2; have g3 := o6.free 3
    go_region_law (first
      | ((try go_simp); go_at_call 17; (with_reducible refine (H4b _ k4).mono ?_); rintro e w3 ⟨rfl, F3, k3, hk3, n3⟩; have ox3 := ox.keeps hk3 (fun h => by have := hlt _ h; omega); have o53 := o5.keeps hk3 (fun h => by have := hlt _ h; omega); have o63 := o6.keeps hk3 (fun h => by have := hlt _ h; omega); have u0 := ox3.cell 0 rfl; have u1 := ox3.cell 1 rfl; have u2 := ox3.cell 2 rfl; have u3 := ox3.cell 3 rfl; have s0 := o53.cell 0 rfl; have s1 := o53.cell 1 rfl; have s2 := o53.cell 2 rfl; have s3 := o53.cell 3 rfl; have s4 := o53.cell 4 rfl; have r0 := o63.cell 0 rfl; have r1 := o63.cell 1 rfl; have r2 := o63.cell 2 rfl; have r3 := o63.cell 3 rfl; have g0 := o63.free 0; have g1 := o63.free 1; have g2 := o63.free 2; have g3 := o63.free 3))
    all_goals (
      go_wp2_with fail
      have o9 := ((((o63.set 0 (.int .i64 nK)).set 1 (.int .i64 wK)).set 2 (.int .i64 cK)).set 3 (.int .i64 dK))
      have m0 := o9.cell 0 rfl
      have m1 := o9.cell 1 rfl
      have m2 := o9.cell 2 rfl
      have m3 := o9.cell 3 rfl
      exact bodyPost_ret (v := .tuple #[.agg #[.int .i64 nK, .int .i64 wK, .int .i64 cK, .int .i64 dK], .bool true]) (by simp [results, Try.results10, go_sem, m0, m1, m2, m3]) rfl ⟨rfl, step_end hlt hb (by omega) lx k3 hk3 n3 (((((Keeps.refl (fun k => k = w.heap.size + 1 + 1) w3).setCell (x := ⟨w.heap.size + 1 + 1, 0, none⟩) rfl (.int .i64 nK)).setCell (x := ⟨w.heap.size + 1 + 1, 1, none⟩) rfl (.int .i64 wK)).setCell (x := ⟨w.heap.size + 1 + 1, 2, none⟩) rfl (.int .i64 cK)).setCell (x := ⟨w.heap.size + 1 + 1, 3, none⟩) rfl (.int .i64 dK))⟩)
  rw [if_neg q4]
  have e4 : (ki == 4) = false := beq_eq_false_iff_ne.2 q4
  by_cases q5 : ki = 5
  · subst q5
    obtain ⟨⟨a2, b2, d2⟩, er⟩ := X5
    dsimp only at *
    have hE := eqStamp a2 b2 d2
    go_enter Try.func10, Try.ntmps10
    go_wp2_with (first
      | (go_at_call 37; (with_reducible refine (H5a _).mono ?_); rintro e w1 ⟨rfl, hx⟩; have y1 := below_alloc w1 (.cells #[.int .i64 a2, .int .i64 b2, .int .i64 d2] 29); have ot := ObjAt.new w1 #[.int .i64 a2, .int .i64 b2, .int .i64 d2] 29; have hx := hx.trans (y1.mono hx.size); have k4 := hkv.below hx; have o4 := o4.below hx o4.lt; have o6 := o6.below hx o6.lt; have hb := hb.trans (hx.mono hb.size); clear hx y1; generalize hv4 : w1.alloc (.cells #[.int .i64 a2, .int .i64 b2, .int .i64 d2] 29) = v4 at *)
      | (go_at_call 31; (with_reducible refine (H5b _ k4).mono ?_); rintro e w3 ⟨rfl, hx⟩; have y3 := below_alloc w3 (.cells #[.int .i64 a2, .int .i64 b2, .int .i64 d2] 29); have ou := ObjAt.new w3 #[.int .i64 a2, .int .i64 b2, .int .i64 d2] 29; have hx := hx.trans (y3.mono hx.size); have k5 := k4.below hx; have o4 := o4.below hx o4.lt; have ot := ot.below hx ot.lt; have o6 := o6.below hx o6.lt; have hb := hb.trans (hx.mono hb.size); have l5 := o6.lt; clear hx y3; generalize hv5 : w3.alloc (.cells #[.int .i64 a2, .int .i64 b2, .int .i64 d2] 29) = v5 at *))
    clear u0 u1 u2 u3 s0 s1 s2 s3 s4 r0 r1 r2 r3 g0 g1 g2 g3
    have u0 := o4.cell 0 rfl; have u1 := o4.cell 1 rfl; have u2 := o4.cell 2 rfl; have u3 := o4.cell 3 rfl; have t0 := ot.cell 0 rfl; have t1 := ot.cell 1 rfl; have t2 := ot.cell 2 rfl; have j0 := ou.cell 0 rfl; have j1 := ou.cell 1 rfl; have j2 := ou.cell 2 rfl; have r0 := o6.cell 0 rfl; have r1 := o6.cell 1 rfl; have r2 := o6.cell 2 rfl; have r3 := o6.cell 3 rfl; have g0 := o6.free 0; have g1 := o6.free 1; have g2 := o6.free 2; have g3 := o6.free 3
    have hee : (er == er) = true := by simp
    go_region
    all_goals (
      go_wp2_with fail
      have o9 := ObjAt.drew ((((o6.set 0 (.int .i64 nw)).set 1 (.int .i64 wl)).set 2 (.int .i64 ct)).set 3 (.int .i64 dv))
      have m0 := o9.cell 0 rfl
      have m1 := o9.cell 1 rfl
      have m2 := o9.cell 2 rfl
      have m3 := o9.cell 3 rfl
      exact bodyPost_ret (v := .tuple #[.agg #[.int .i64 nw, .int .i64 wl, .int .i64 ct, .int .i64 dv], .bool true]) (by simp [results, Try.results10, go_sem, m0, m1, m2, m3]) rfl ⟨rfl, step_end hlt hb (by omega) l5 k5 (Keeps.refl _ _) (fun k h => .inl h) (keeps_drew (((((Keeps.refl (fun k => k = w.heap.size + 1 + 1) v5).setCell (x := ⟨w.heap.size + 1 + 1, 0, none⟩) rfl (.int .i64 nw)).setCell (x := ⟨w.heap.size + 1 + 1, 1, none⟩) rfl (.int .i64 wl)).setCell (x := ⟨w.heap.size + 1 + 1, 2, none⟩) rfl (.int .i64 ct)).setCell (x := ⟨w.heap.size + 1 + 1, 3, none⟩) rfl (.int .i64 dv)))⟩)
  have e5 : (ki == 5) = false := beq_eq_false_iff_ne.2 q5
  go_enter Try.func10, Try.ntmps10
  go_wp2
  have o9 := ((((o6.set 0 (.int .i64 nw)).set 1 (.int .i64 wl)).set 2 (.int .i64 ct)).set 3 (.int .i64 dv))
  have m0 := o9.cell 0 rfl
  have m1 := o9.cell 1 rfl
  have m2 := o9.cell 2 rfl
  have m3 := o9.cell 3 rfl
  exact bodyPost_ret (v := .tuple #[.agg #[.int .i64 nw, .int .i64 wl, .int .i64 ct, .int .i64 dv], .bool true]) (by simp [results, Try.results10, go_sem, m0, m1, m2, m3]) rfl ⟨rfl, step_end hlt hb (by omega) l6 hkv (Keeps.refl _ _) (fun k h => .inl h) (((((Keeps.refl (fun k => k = w.heap.size + 1 + 1) v).setCell (x := ⟨w.heap.size + 1 + 1, 0, none⟩) rfl (.int .i64 nw)).setCell (x := ⟨w.heap.size + 1 + 1, 1, none⟩) rfl (.int .i64 wl)).setCell (x := ⟨w.heap.size + 1 + 1, 2, none⟩) rfl (.int .i64 ct)).setCell (x := ⟨w.heap.size + 1 + 1, 3, none⟩) rfl (.int .i64 dv))⟩
end Go.Proofs.Ytfdiomghoheljaa
