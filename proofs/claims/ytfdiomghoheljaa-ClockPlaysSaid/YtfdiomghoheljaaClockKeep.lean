/- The program's own contracts of layer 19: what a clock is in memory; a new one, a tick, what is told of it. -/
import Derived.Test.YtfdiomghoheljaaClockLess
import Derived.Test.YtfdiomghoheljaaRowPart
import Derived.BigQuiet
namespace Go.Proofs.Ytfdiomghoheljaa
open Go.RowKit
set_option linter.unusedVariables false

/-- What the program's clock is in memory: its time and its last stamp, one block. -/
def ClkIs (w : World) (p : Nat) (F : Nat → Prop) (c : ClockN) : Prop := ObjAt w p [.int .i64 c.now, .int .i64 c.last.wall, .int .i64 c.last.count, .int .i64 c.last.dev] ∧ ∀ k, F k → k = p
/-- A clock behind a pointer: its block, all blocks that are its own (F), and what it shows. -/
structure ClkAt (w : World) (p : Nat) (F : Nat → Prop) (c : ClockN) : Prop where
  own : F p
  lt : ∀ k, F k → k < w.heap.size
  ok : OkK c
  is : ClkIs w p F c
theorem ClkAt.keeps {G : Nat → Prop} {w w' : World} {p : Nat} {F : Nat → Prop} {c : ClockN} (h : ClkAt w p F c) (hk : Keeps G w w') (hd : ∀ k, F k → ¬ G k) : ClkAt w' p F c :=
  ⟨h.own, fun k hF => Nat.lt_of_lt_of_le (h.lt k hF) hk.size, h.ok, h.is.1.keeps hk (hd p h.own), h.is.2⟩

/-- A call that changes a clock: it shows c then, and all else stays. -/
def KChanged (p : Nat) (F : Nat → Prop) (c : ClockN) (v : Value) (w : World) (e : Ending) (w' : World) : Prop :=
  e = .returned v ∧ ∃ F', ClkAt w' p F' c ∧ Keeps F w w' ∧ ∀ k, F' k → F k ∨ w.heap.size ≤ k
theorem ClkAt.chg {w w' : World} {p : Nat} {F : Nat → Prop} {c c' : ClockN} (h : ClkAt w p F c) (hv : ObjAt w' p [.int .i64 c'.now, .int .i64 c'.last.wall, .int .i64 c'.last.count, .int .i64 c'.last.dev]) (hok : OkK c') (hk : Keeps F w w') (v : Value) : KChanged p F c' v w (.returned v) w' :=
  ⟨rfl, F, ⟨h.own, fun k hF => Nat.lt_of_lt_of_le (h.lt k hF) hk.size, hok, hv, h.is.2⟩, hk, fun k h => .inl h⟩
theorem ClkAt.same {w w' : World} {p : Nat} {F : Nat → Prop} {c : ClockN} (h : ClkAt w p F c) (hb : Below w.heap.size w w') (v : Value) : KChanged p F c v w (.returned v) w' :=
  h.chg (h.is.1.below hb h.is.1.lt) h.ok (Keeps.new hb) v
theorem KChanged.early {p : Nat} {F : Nat → Prop} {c : ClockN} {v : Value} {w w1 w' : World} {e : Ending} (h : KChanged p F c v w1 e w') (hb : Below w.heap.size w w1) : KChanged p F c v w e w' := by
  obtain ⟨rfl, F', h1, h2, h3⟩ := h
  exact ⟨rfl, F', h1, (Keeps.new (F := F) hb).trans h2 (fun _ _ h => h), fun k hk => (h3 k hk).imp id fun h => Nat.le_trans hb.size h⟩

/-- A stamp stored into a block. -/
theorem set3 {v : World} {B : Nat} {x y z : Value} (o : ObjAt v B [x, y, z]) (a b d : Value) : ObjAt (((v.setCell ⟨B, 0, none⟩ a).setCell ⟨B, 1, none⟩ b).setCell ⟨B, 2, none⟩ d) B [a, b, d] := ((o.set 0 a).set 1 b).set 2 d
theorem set3_below {w v : World} {B K : Nat} (h : Below K w v) (hB : K ≤ B) (a b d : Value) : Below K w (((v.setCell ⟨B, 0, none⟩ a).setCell ⟨B, 1, none⟩ b).setCell ⟨B, 2, none⟩ d) := ((h.setCell (p := ⟨B, 0, none⟩) hB a).setCell (p := ⟨B, 1, none⟩) hB b).setCell (p := ⟨B, 2, none⟩) hB d
theorem set3_other {v : World} {p B : Nat} {vs : List Value} (o : ObjAt v p vs) (h : B ≠ p) (a b d : Value) : ObjAt (((v.setCell ⟨B, 0, none⟩ a).setCell ⟨B, 1, none⟩ b).setCell ⟨B, 2, none⟩ d) p vs := ((o.other (p := ⟨B, 0, none⟩) h a).other (p := ⟨B, 1, none⟩) h b).other (p := ⟨B, 2, none⟩) h d
theorem set3_keeps {F : Nat → Prop} {w v : World} {B : Nat} (h : Keeps F w v) (hB : F B ∨ w.heap.size ≤ B) (a b d : Value) : Keeps F w (((v.setCell ⟨B, 0, none⟩ a).setCell ⟨B, 1, none⟩ b).setCell ⟨B, 2, none⟩ d) := by
  refine ⟨h.os, h.tape, h.output, by simpa using h.size, fun k hk hn => ?_⟩
  have e : k ≠ B := by
    rintro rfl
    rcases hB with c | c
    · exact hn c
    · omega
  rw [Below.heap_setCell _ _ _ _ e, Below.heap_setCell _ _ _ _ e, Below.heap_setCell _ _ _ _ e]
  exact h.block k hk hn

theorem any_some {Q : World → Prop} {w : World} (S : World → Prop) (h : S w) (H : ∀ w', S w' → Q w') : Q w := H w h
theorem below_drewn {B : Nat} {a w : World} (h : Below B a w) (k : Nat) : Below B a (w.drewN k) := ⟨h.os, h.tape, h.output, by simpa using h.size, by simpa using h.block⟩

theorem kNewYes (d : Int) (w : World) (h : 0 ≤ d ∧ d ≤ 63) :
    Calls Try.prog 9 #[.int .i64 d] w fun e w' => ∃ p F, e = .returned (.tuple #[.pointer (some ⟨p, 0, none⟩), .int .i64 0]) ∧ ClkAt w' p F ⟨0, ⟨0, 0, d⟩⟩ ∧ (∀ k, F k → w.heap.size ≤ k) ∧ Below w.heap.size w w' := by
  have HU := fun v => upToC 63 v
  have H1 := fun p v h => upToIn d 63 p v h
  have hb : upB d 63 = true := by unfold upB; rw [decide_eq_true h.1, decide_eq_true h.2]; rfl
  rw [hb] at H1
  have hok := new_okK h
  clear hb h
  go_enter Try.func9, Try.ntmps9
  go_wp2_with (first
    | (go_at_call 32; (with_reducible refine (HU _).mono ?_); rintro e w1 ⟨p1, rfl, q1, hx⟩)
    | (go_at_call 45; (with_reducible refine (H1 _ _ q1).mono ?_); rintro e w2 ⟨rfl, rfl⟩))
  go_ret2
  exact ⟨_, fun k => k = w1.heap.size, rfl, ⟨rfl, fun k h => by subst h; simp, hok, ObjAt.new w1 _ _, fun _ h => h⟩, fun k h => by subst h; exact hx.size, hx.trans ((below_alloc w1 _).mono hx.size)⟩

theorem kNewNo (d : Int) (w : World) (h : ¬ (0 ≤ d ∧ d ≤ 63)) :
    Calls Try.prog 9 #[.int .i64 d] w fun e w' => e = .returned (.tuple #[.pointer none, .int .i64 4]) ∧ Below w.heap.size w w' := by
  have HU := fun v => upToC 63 v
  have H1 := fun p v h => upToIn d 63 p v h
  have hb : upB d 63 = false := by
    unfold upB
    rw [Bool.eq_false_iff]
    intro c
    rw [Bool.and_eq_true, decide_eq_true_iff, decide_eq_true_iff] at c
    exact h c
  rw [hb] at H1
  clear hb h
  go_enter Try.func9, Try.ntmps9
  go_wp2_with (first
    | (go_at_call 32; (with_reducible refine (HU _).mono ?_); rintro e w1 ⟨p1, rfl, q1, hx⟩)
    | (go_at_call 45; (with_reducible refine (H1 _ _ q1).mono ?_); rintro e w2 ⟨rfl, rfl⟩))
  go_ret2
  exact ⟨rfl, hx⟩

theorem kTickC (p : Nat) (F : Nat → Prop) (c : ClockN) (ms : Int) (w : World) (h : ClkAt w p F c) (hm : -9223372036854775808 ≤ ms ∧ ms ≤ 9223372036854775807) :
    Calls Try.prog 13 #[.pointer (some ⟨p, 0, none⟩), .int .i64 ms] w (KChanged p F (tickK c ms).1 (.int .i64 (tickK c ms).2) w) := by
  have hsame := fun v w' hb => h.same (w' := w') hb v
  have hchg := fun c' w' => h.chg (c' := c') (w' := w')
  have hF := h.own
  have hokt := tick_okK h.ok ms
  have o1 := h.is.1
  have n0 := h.ok.now0
  have n1 := h.ok.now1
  clear h
  obtain ⟨N, ⟨a, b, d⟩⟩ := c
  dsimp only at *
  have hlt := o1.lt
  have u0 := o1.cell 0 rfl
  have wS : IntKind.i64.wrap (4398046511104 - N) = 4398046511104 - N := by rw [IntKind.wrap_i64]; omega
  have HU := fun v => upToC (4398046511104 - N) v
  have H1 := fun p v h => upToIn ms (4398046511104 - N) p v h
  unfold upB at H1
  unfold tickK at hokt ⊢
  dsimp only at hokt ⊢
  by_cases q : ms < 0 ∨ 4398046511104 - N < ms
  · rw [if_pos q]
    have hb : (decide (0 ≤ ms) && decide (ms ≤ 4398046511104 - N)) = false := by
      rw [Bool.eq_false_iff]
      intro c
      rw [Bool.and_eq_true, decide_eq_true_iff, decide_eq_true_iff] at c
      omega
    rw [hb] at H1
    clear hb q hokt hm n0 n1
    go_enter Try.func13, Try.ntmps13
    go_wp2_with (first
      | (go_at_call 32; (with_reducible refine (HU _).mono ?_); rintro e w1 ⟨p1, rfl, q1, hx⟩)
      | (go_at_call 45; (with_reducible refine (H1 _ _ q1).mono ?_); rintro e w2 ⟨rfl, rfl⟩))
    go_ret
    exact hsame _ _ hx
  · rw [if_neg q] at hokt ⊢
    have hb : (decide (0 ≤ ms) && decide (ms ≤ 4398046511104 - N)) = true := by
      rw [Bool.and_eq_true, decide_eq_true_iff, decide_eq_true_iff]
      omega
    rw [hb] at H1
    have wT : IntKind.i64.wrap (N + ms) = N + ms := by rw [IntKind.wrap_i64]; omega
    clear hb q hm n0 n1
    go_enter Try.func13, Try.ntmps13
    go_wp2_with (first
      | (go_at_call 32; (with_reducible refine (HU _).mono ?_); rintro e w1 ⟨p1, rfl, q1, hx⟩; have o2 := o1.below hx hlt; have u1 := o2.cell 0 rfl; have g1 := o2.free 0)
      | (go_at_call 45; (with_reducible refine (H1 _ _ q1).mono ?_); rintro e w2 ⟨rfl, rfl⟩))
    go_ret
    exact hchg _ _ (o2.set 0 _) hokt ((Keeps.new hx).setCell (x := ⟨p, 0, none⟩) hF _) _

theorem kWallC (p : Nat) (F : Nat → Prop) (c : ClockN) (w : World) (h : ClkAt w p F c) :
    Calls Try.prog 11 #[.pointer (some ⟨p, 0, none⟩)] w fun e w' => e = .returned (.int .i64 c.now) ∧ Below w.heap.size w w' := by
  have u0 := h.is.1.cell 0 rfl
  go_enter Try.func11, Try.ntmps11
  go_wp2
  go_ret
  exact ⟨rfl, Below.refl _ _⟩

set_option maxRecDepth 100000 in
theorem kLastC (p : Nat) (F : Nat → Prop) (c : ClockN) (w : World) (h : ClkAt w p F c) :
    Calls Try.prog 12 #[.pointer (some ⟨p, 0, none⟩)] w fun e w' => e = .returned (valT c.last) ∧ Below w.heap.size w w' := by
  have o1 := h.is.1
  clear h
  obtain ⟨N, ⟨a, b, d⟩⟩ := c
  unfold valT
  dsimp only at *
  have b0 := below_alloc w (.cells #[.int .i64 0, .int .i64 0, .int .i64 0] 29)
  have o2 := o1.below b0 o1.lt
  have u1 := o2.cell 1 rfl; have u2 := o2.cell 2 rfl; have u3 := o2.cell 3 rfl
  have b1 := below_alloc w (.cells #[.int .i64 a, .int .i64 b, .int .i64 d] 29)
  have o9 := ObjAt.new w #[.int .i64 a, .int .i64 b, .int .i64 d] 29
  go_enter Try.func12, Try.ntmps12
  go_wp2
  have s0 := o9.cell 0 rfl; have s1 := o9.cell 1 rfl; have s2 := o9.cell 2 rfl
  exact bodyPost_ret (v := .agg #[.int .i64 a, .int .i64 b, .int .i64 d]) (by simp [results, Try.results12, go_sem, s0, s1, s2]) rfl ⟨rfl, b1⟩

set_option maxHeartbeats 2000000 in
set_option maxRecDepth 100000 in
theorem kPeekC (p : Nat) (F : Nat → Prop) (c : ClockN) (w : World) (h : ClkAt w p F c) :
    Calls Try.prog 31 #[.pointer (some ⟨p, 0, none⟩)] w fun e w' => e = .returned (.tuple #[valT (peekK c).1, .int .i64 (peekK c).2]) ∧ Below w.heap.size w w' := by
  have o1 := h.is.1
  have hr := rightT_iff.1 h.ok.right
  clear h
  obtain ⟨N, ⟨a, b, d⟩⟩ := c
  obtain ⟨-, -, b0, b1, -, -⟩ := hr
  dsimp only at *
  have wB : IntKind.i64.wrap (b + 1) = b + 1 := by rw [IntKind.wrap_i64]; omega
  have HU := fun v => upToC 65535 v
  have H1 := fun p v h => upToIn (b + 1) 65535 p v h
  have hB : upB (b + 1) 65535 = decide (¬ 65535 ≤ b) := by
    unfold upB
    rw [decide_eq_true (by omega), Bool.true_and, decide_eq_decide]
    omega
  rw [hB] at H1
  clear hB b0 b1
  have bz := below_alloc w (.cells #[.int .i64 0, .int .i64 0, .int .i64 0] 29)
  have oz := o1.below bz o1.lt
  have y1 := oz.cell 1 rfl; have y2 := oz.cell 2 rfl; have y3 := oz.cell 3 rfl
  clear oz bz
  obtain ⟨z1, z2, hb⟩ := objs2 w #[.int .i64 0, .int .i64 0, .int .i64 0] #[.int .i64 a, .int .i64 b, .int .i64 d] 29 29
  have o2 := o1.below hb o1.lt
  have hne : w.heap.size ≠ p := by have := o1.lt; omega
  have hne1 : w.heap.size + 1 ≠ p := by have := o1.lt; omega
  clear o1
  have e1 : a < N → peekK ⟨N, ⟨a, b, d⟩⟩ = (⟨N, 0, d⟩, 0) := fun q => by unfold peekK; rw [if_pos q]
  have e2 : ¬ a < N → 65535 ≤ b → peekK ⟨N, ⟨a, b, d⟩⟩ = (⟨0, 0, 0⟩, 7) := fun q q2 => by unfold peekK; rw [if_neg q, if_pos q2]
  have e3 : ¬ a < N → ¬ 65535 ≤ b → peekK ⟨N, ⟨a, b, d⟩⟩ = (⟨a, b + 1, d⟩, 0) := fun q q2 => by unfold peekK; rw [if_neg q, if_neg q2]
  obtain ⟨P, hP⟩ : ∃ P, peekK ⟨N, ⟨a, b, d⟩⟩ = P := ⟨_, rfl⟩
  rw [hP] at e1 e2 e3 ⊢
  have E1 := Lib.hid e1; have E2 := Lib.hid e2; have E3 := Lib.hid e3
  clear e1 e2 e3 hP
  unfold valT
  by_cases q : a < N
  · have d0 : decide (a < N) = true := decide_eq_true q
    obtain rfl := E1.out q
    clear E1 E2 E3 q H1
    go_enter Try.func31, Try.ntmps31
    go_wp2_with fail
    refine wp_some (fun wd => ObjAt wd p [.int .i64 N, .int .i64 a, .int .i64 b, .int .i64 d] ∧ ObjAt wd w.heap.size [.int .i64 0, .int .i64 0, .int .i64 0] ∧ ObjAt wd (w.heap.size + 1) [.int .i64 a, .int .i64 b, .int .i64 d] ∧ Below w.heap.size w wd) ⟨o2, z1, z2, hb⟩ ?_
    clear o2 z1 z2 hb; clear y1 y2 y3
    rintro wd ⟨o2, z1, z2, hb⟩
    have u0 := o2.cell 0 rfl; have u1 := o2.cell 1 rfl; have u2 := o2.cell 2 rfl; have u3 := o2.cell 3 rfl
    have x0 := z2.cell 0 rfl; have x1 := z2.cell 1 rfl; have x2 := z2.cell 2 rfl; have f0 := z2.free 0; have f1 := z2.free 1; have f2 := z2.free 2
    have v1 := z1.cell 0 rfl; have v2 := z1.cell 1 rfl; have v3 := z1.cell 2 rfl; have g0 := z1.free 0; have g1 := z1.free 1; have g2 := z1.free 2
    go_quiet (fail)
    refine any_some (fun wd => ObjAt wd p [.int .i64 N, .int .i64 a, .int .i64 b, .int .i64 d] ∧ ObjAt wd w.heap.size [.int .i64 0, .int .i64 0, .int .i64 0] ∧ ObjAt wd (w.heap.size + 1) [.int .i64 a, .int .i64 b, .int .i64 d] ∧ Below w.heap.size w wd) ⟨o2.drewN _, z1.drewN _, z2.drewN _, below_drewn hb _⟩ ?_
    clear o2 z1 z2 hb; clear u0 u1 u2 u3 x0 x1 x2 f0 f1 f2 v1 v2 v3 g0 g1 g2
    rintro wd ⟨o2, z1, z2, hb⟩
    have u0 := o2.cell 0 rfl; have u1 := o2.cell 1 rfl; have u2 := o2.cell 2 rfl; have u3 := o2.cell 3 rfl
    have x0 := z2.cell 0 rfl; have x1 := z2.cell 1 rfl; have x2 := z2.cell 2 rfl; have f0 := z2.free 0; have f1 := z2.free 1; have f2 := z2.free 2
    have v1 := z1.cell 0 rfl; have v2 := z1.cell 1 rfl; have v3 := z1.cell 2 rfl; have g0 := z1.free 0; have g1 := z1.free 1; have g2 := z1.free 2
    go_wp2
    have z1 := (z1.other (p := ⟨w.heap.size + 1, 0, none⟩) (by simp) (.int .i64 N)).other (p := ⟨w.heap.size + 1, 1, none⟩) (by simp) (.int .i64 0)
    have hb := (hb.setCell (p := ⟨w.heap.size + 1, 0, none⟩) (by simp) (.int .i64 N)).setCell (p := ⟨w.heap.size + 1, 1, none⟩) (by simp) (.int .i64 0)
    have o9 := set3 z1 (.int .i64 (N)) (.int .i64 (0)) (.int .i64 (d))
    have r0 := o9.cell 0 rfl; have r1 := o9.cell 1 rfl; have r2 := o9.cell 2 rfl
    exact bodyPost_ret (v := .tuple #[.agg #[.int .i64 (N), .int .i64 (0), .int .i64 (d)], .int .i64 0]) (by simp [results, Try.results31, go_sem, r0, r1, r2]) rfl ⟨rfl, set3_below hb (Nat.le_refl _) _ _ _⟩
  · have d0 : decide (a < N) = false := decide_eq_false q
    by_cases q2 : 65535 ≤ b
    · obtain rfl := E2.out q q2
      rw [decide_eq_false (fun c => c q2)] at H1
      clear E1 E2 E3 q q2
      go_enter Try.func31, Try.ntmps31
      go_wp2_with fail
      refine wp_some (fun wd => ObjAt wd p [.int .i64 N, .int .i64 a, .int .i64 b, .int .i64 d] ∧ ObjAt wd w.heap.size [.int .i64 0, .int .i64 0, .int .i64 0] ∧ ObjAt wd (w.heap.size + 1) [.int .i64 a, .int .i64 b, .int .i64 d] ∧ Below w.heap.size w wd) ⟨o2, z1, z2, hb⟩ ?_
      clear o2 z1 z2 hb; clear y1 y2 y3
      rintro wd ⟨o2, z1, z2, hb⟩
      have u0 := o2.cell 0 rfl; have u1 := o2.cell 1 rfl; have u2 := o2.cell 2 rfl; have u3 := o2.cell 3 rfl
      have x0 := z2.cell 0 rfl; have x1 := z2.cell 1 rfl; have x2 := z2.cell 2 rfl; have f0 := z2.free 0; have f1 := z2.free 1; have f2 := z2.free 2
      have v1 := z1.cell 0 rfl; have v2 := z1.cell 1 rfl; have v3 := z1.cell 2 rfl; have g0 := z1.free 0; have g1 := z1.free 1; have g2 := z1.free 2
      go_quiet (fail)
      refine any_some (fun wd => ObjAt wd p [.int .i64 N, .int .i64 a, .int .i64 b, .int .i64 d] ∧ ObjAt wd w.heap.size [.int .i64 0, .int .i64 0, .int .i64 0] ∧ ObjAt wd (w.heap.size + 1) [.int .i64 a, .int .i64 b, .int .i64 d] ∧ Below w.heap.size w wd) ⟨o2.drewN _, z1.drewN _, z2.drewN _, below_drewn hb _⟩ ?_
      clear o2 z1 z2 hb; clear u0 u1 u2 u3 x0 x1 x2 f0 f1 f2 v1 v2 v3 g0 g1 g2
      rintro wd ⟨o2, z1, z2, hb⟩
      have u0 := o2.cell 0 rfl; have u1 := o2.cell 1 rfl; have u2 := o2.cell 2 rfl; have u3 := o2.cell 3 rfl
      have x0 := z2.cell 0 rfl; have x1 := z2.cell 1 rfl; have x2 := z2.cell 2 rfl; have f0 := z2.free 0; have f1 := z2.free 1; have f2 := z2.free 2
      have v1 := z1.cell 0 rfl; have v2 := z1.cell 1 rfl; have v3 := z1.cell 2 rfl; have g0 := z1.free 0; have g1 := z1.free 1; have g2 := z1.free 2
      have z3 := z1.other (p := ⟨w.heap.size + 1, 1, none⟩) (by simp) (.int .i64 (b + 1))
      have z4 := z2.set 1 (.int .i64 (b + 1))
      have hb := hb.setCell (p := ⟨w.heap.size + 1, 1, none⟩) (by simp) (.int .i64 (b + 1))
      go_wp2_with (first
        | (go_at_call 32; (with_reducible refine (HU _).mono ?_); rintro e w1 ⟨p1, rfl, q1, hx⟩; have z1 := z3.below hx z3.lt; have z2 := z4.below hx z4.lt; have hb := hb.trans (hx.mono hb.size); have x0 := z2.cell 0 rfl; have x1 := z2.cell 1 rfl; have x2 := z2.cell 2 rfl; have v1 := z1.cell 0 rfl; have v2 := z1.cell 1 rfl; have v3 := z1.cell 2 rfl; have g0 := z1.free 0; have g1 := z1.free 1; have g2 := z1.free 2)
        | (go_at_call 45; (with_reducible refine (H1 _ _ q1).mono ?_); rintro e w2 ⟨rfl, rfl⟩))
      have o9 := set3 z1 (.int .i64 (0)) (.int .i64 (0)) (.int .i64 (0))
      have r0 := o9.cell 0 rfl; have r1 := o9.cell 1 rfl; have r2 := o9.cell 2 rfl
      exact bodyPost_ret (v := .tuple #[.agg #[.int .i64 (0), .int .i64 (0), .int .i64 (0)], .int .i64 7]) (by simp [results, Try.results31, go_sem, r0, r1, r2]) rfl ⟨rfl, set3_below hb (Nat.le_refl _) _ _ _⟩
    · obtain rfl := E3.out q q2
      rw [decide_eq_true q2] at H1
      clear E1 E2 E3 q q2
      go_enter Try.func31, Try.ntmps31
      go_wp2_with fail
      refine wp_some (fun wd => ObjAt wd p [.int .i64 N, .int .i64 a, .int .i64 b, .int .i64 d] ∧ ObjAt wd w.heap.size [.int .i64 0, .int .i64 0, .int .i64 0] ∧ ObjAt wd (w.heap.size + 1) [.int .i64 a, .int .i64 b, .int .i64 d] ∧ Below w.heap.size w wd) ⟨o2, z1, z2, hb⟩ ?_
      clear o2 z1 z2 hb; clear y1 y2 y3
      rintro wd ⟨o2, z1, z2, hb⟩
      have u0 := o2.cell 0 rfl; have u1 := o2.cell 1 rfl; have u2 := o2.cell 2 rfl; have u3 := o2.cell 3 rfl
      have x0 := z2.cell 0 rfl; have x1 := z2.cell 1 rfl; have x2 := z2.cell 2 rfl; have f0 := z2.free 0; have f1 := z2.free 1; have f2 := z2.free 2
      have v1 := z1.cell 0 rfl; have v2 := z1.cell 1 rfl; have v3 := z1.cell 2 rfl; have g0 := z1.free 0; have g1 := z1.free 1; have g2 := z1.free 2
      go_quiet (fail)
      refine any_some (fun wd => ObjAt wd p [.int .i64 N, .int .i64 a, .int .i64 b, .int .i64 d] ∧ ObjAt wd w.heap.size [.int .i64 0, .int .i64 0, .int .i64 0] ∧ ObjAt wd (w.heap.size + 1) [.int .i64 a, .int .i64 b, .int .i64 d] ∧ Below w.heap.size w wd) ⟨o2.drewN _, z1.drewN _, z2.drewN _, below_drewn hb _⟩ ?_
      clear o2 z1 z2 hb; clear u0 u1 u2 u3 x0 x1 x2 f0 f1 f2 v1 v2 v3 g0 g1 g2
      rintro wd ⟨o2, z1, z2, hb⟩
      have u0 := o2.cell 0 rfl; have u1 := o2.cell 1 rfl; have u2 := o2.cell 2 rfl; have u3 := o2.cell 3 rfl
      have x0 := z2.cell 0 rfl; have x1 := z2.cell 1 rfl; have x2 := z2.cell 2 rfl; have f0 := z2.free 0; have f1 := z2.free 1; have f2 := z2.free 2
      have v1 := z1.cell 0 rfl; have v2 := z1.cell 1 rfl; have v3 := z1.cell 2 rfl; have g0 := z1.free 0; have g1 := z1.free 1; have g2 := z1.free 2
      have z3 := z1.other (p := ⟨w.heap.size + 1, 1, none⟩) (by simp) (.int .i64 (b + 1))
      have z4 := z2.set 1 (.int .i64 (b + 1))
      have hb := hb.setCell (p := ⟨w.heap.size + 1, 1, none⟩) (by simp) (.int .i64 (b + 1))
      go_wp2_with (first
        | (go_at_call 32; (with_reducible refine (HU _).mono ?_); rintro e w1 ⟨p1, rfl, q1, hx⟩; have z1 := z3.below hx z3.lt; have z2 := z4.below hx z4.lt; have hb := hb.trans (hx.mono hb.size); have x0 := z2.cell 0 rfl; have x1 := z2.cell 1 rfl; have x2 := z2.cell 2 rfl; have v1 := z1.cell 0 rfl; have v2 := z1.cell 1 rfl; have v3 := z1.cell 2 rfl; have g0 := z1.free 0; have g1 := z1.free 1; have g2 := z1.free 2)
        | (go_at_call 45; (with_reducible refine (H1 _ _ q1).mono ?_); rintro e w2 ⟨rfl, rfl⟩))
      have o9 := set3 z1 (.int .i64 (a)) (.int .i64 (b + 1)) (.int .i64 (d))
      have r0 := o9.cell 0 rfl; have r1 := o9.cell 1 rfl; have r2 := o9.cell 2 rfl
      exact bodyPost_ret (v := .tuple #[.agg #[.int .i64 (a), .int .i64 (b + 1), .int .i64 (d)], .int .i64 0]) (by simp [results, Try.results31, go_sem, r0, r1, r2]) rfl ⟨rfl, set3_below hb (Nat.le_refl _) _ _ _⟩
end Go.Proofs.Ytfdiomghoheljaa
