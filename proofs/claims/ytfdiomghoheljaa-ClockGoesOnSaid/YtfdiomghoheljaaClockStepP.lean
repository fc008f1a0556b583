/- The program's own contracts of layer 19: the next stamp, a stamp taken in. -/
import Derived.Test.YtfdiomghoheljaaClockKeep
import Derived.Deep.RegionHeld3
namespace Go.Proofs.Ytfdiomghoheljaa
open Go.RowKit
set_option linter.unusedVariables false

theorem take_up (c : ClockN) (s : StampN) : takeK c s = if lessT c.last ⟨s.wall, s.count, c.last.dev⟩ = true then ⟨c.now, ⟨s.wall, s.count, c.last.dev⟩⟩ else c := by
  unfold takeK
  by_cases h : c.last.wall < s.wall ∨ (c.last.wall = s.wall ∧ c.last.count < s.count)
  · rw [if_pos h, if_pos]
    unfold lessT
    dsimp only
    split
    · rw [decide_eq_true_iff]; omega
    · rw [if_pos (by omega), decide_eq_true_iff]; omega
  · rw [if_neg h, if_neg]
    unfold lessT
    dsimp only
    split
    · rw [decide_eq_true_iff]; omega
    · split
      · rw [decide_eq_true_iff]; omega
      · rw [decide_eq_true_iff]; omega
theorem right_fit {s : StampN} (h : rightT s = true) : FitT s := by
  have := rightT_iff.1 h
  exact ⟨by omega, by omega, by omega⟩

set_option maxRecDepth 100000 in
theorem kNextC (p : Nat) (F : Nat → Prop) (c : ClockN) (w : World) (h : ClkAt w p F c) :
    Calls Try.prog 14 #[.pointer (some ⟨p, 0, none⟩)] w (KChanged p F (nextK c) (.tuple #[valT (peekK c).1, .int .i64 (peekK c).2]) w) := by
  have hchg := fun c' w' => h.chg (c' := c') (w' := w')
  have hF := h.own
  have hokn := next_okK h.ok
  have hok := h.ok
  have o1 := h.is.1
  have b0 := below_alloc w (.cells #[.int .i64 0, .int .i64 0, .int .i64 0] 29)
  have HP := kPeekC p F c _ (⟨h.own, fun k hk => Nat.lt_of_lt_of_le (h.lt k hk) b0.size, h.ok, ⟨h.is.1.below b0 h.is.1.lt, h.is.2⟩⟩ : ClkAt (w.alloc (.cells #[.int .i64 0, .int .i64 0, .int .i64 0] 29)) p F c)
  have z := ObjAt.new w #[.int .i64 0, .int .i64 0, .int .i64 0] 29
  have hlt := o1.lt
  have o2 := o1.below b0 hlt
  have hne : w.heap.size ≠ p := by omega
  have zl := z.lt
  clear h o1
  unfold nextK at hokn ⊢
  obtain ⟨N, ⟨a, b, d⟩⟩ := c
  have hq : (peekK ⟨N, ⟨a, b, d⟩⟩).2 = 0 ∨ (((peekK ⟨N, ⟨a, b, d⟩⟩).2 == 0) = false ∧ ¬ (peekK ⟨N, ⟨a, b, d⟩⟩).2 = 0) := by
    by_cases h : (peekK ⟨N, ⟨a, b, d⟩⟩).2 = 0
    · exact .inl h
    · exact .inr ⟨beq_eq_false_iff_ne.2 h, h⟩
  generalize peekK ⟨N, ⟨a, b, d⟩⟩ = P at *
  obtain ⟨⟨x, y, t⟩, er⟩ := P
  unfold valT at *
  dsimp only at HP hq hokn hchg o2 ⊢
  rcases hq with rfl | ⟨q0, q1⟩
  · rw [if_pos rfl] at hokn ⊢
    go_enter Try.func14, Try.ntmps14
    go_wp2_with (go_at_call 31; (with_reducible refine HP.mono ?_); rintro e w1 ⟨rfl, hx⟩; have hx0 := hx; have b1 := b0.trans (hx.mono b0.size); have b4 := below_alloc w1 (.cells #[.int .i64 x, .int .i64 y, .int .i64 t] 29); have o4 := ObjAt.new w1 #[.int .i64 x, .int .i64 y, .int .i64 t] 29; have hx := hx.trans (b4.mono hx.size); have o3 := o2.below hx o2.lt; have z3 := z.below hx zl; have l4 : w.heap.size < w1.heap.size := Nat.lt_of_lt_of_le zl hx0.size; have hb := b0.trans (hx.mono b0.size); generalize hv4 : w1.alloc (.cells #[.int .i64 x, .int .i64 y, .int .i64 t] 29) = v4 at *; have u1 := o3.cell 1 rfl; have u2 := o3.cell 2 rfl; have u3 := o3.cell 3 rfl; have f1 := o3.free 1; have f2 := o3.free 2; have f3 := o3.free 3; have x0 := o4.cell 0 rfl; have x1 := o4.cell 1 rfl; have x2 := o4.cell 2 rfl; have z0 := z3.cell 0 rfl; have z1 := z3.cell 1 rfl; have z2 := z3.cell 2 rfl; have g0 := z3.free 0; have g1 := z3.free 1; have g2 := z3.free 2)
    have hne4 : p ≠ w1.heap.size := by omega
    have O3 := ((o3.set 1 (.int .i64 x)).set 2 (.int .i64 y)).set 3 (.int .i64 t)
    have Z3 := ((z3.other (p := ⟨p, 1, none⟩) (Ne.symm hne) (.int .i64 x)).other (p := ⟨p, 2, none⟩) (Ne.symm hne) (.int .i64 y)).other (p := ⟨p, 3, none⟩) (Ne.symm hne) (.int .i64 t)
    have k3 := (((Keeps.new (F := F) hb).setCell (x := ⟨p, 1, none⟩) hF (.int .i64 x)).setCell (x := ⟨p, 2, none⟩) hF (.int .i64 y)).setCell (x := ⟨p, 3, none⟩) hF (.int .i64 t)
    have o9 := set3 Z3 (.int .i64 x) (.int .i64 y) (.int .i64 t)
    have r0 := o9.cell 0 rfl; have r1 := o9.cell 1 rfl; have r2 := o9.cell 2 rfl
    exact bodyPost_ret (v := .tuple #[.agg #[.int .i64 x, .int .i64 y, .int .i64 t], .int .i64 0]) (by simp [results, Try.results14, go_sem, r0, r1, r2]) rfl (hchg _ _ (set3_other O3 hne _ _ _) hokn (set3_keeps k3 (.inr (Nat.le_refl _)) _ _ _) _)
  · rw [if_neg q1] at hokn ⊢
    clear hokn
    go_enter Try.func14, Try.ntmps14
    go_wp2_with (go_at_call 31; (with_reducible refine HP.mono ?_); rintro e w1 ⟨rfl, hx⟩; have hx0 := hx; have b1 := b0.trans (hx.mono b0.size); have b4 := below_alloc w1 (.cells #[.int .i64 x, .int .i64 y, .int .i64 t] 29); have o4 := ObjAt.new w1 #[.int .i64 x, .int .i64 y, .int .i64 t] 29; have hx := hx.trans (b4.mono hx.size); have o3 := o2.below hx o2.lt; have z3 := z.below hx zl; have l4 : w.heap.size < w1.heap.size := Nat.lt_of_lt_of_le zl hx0.size; have hb := b0.trans (hx.mono b0.size); generalize hv4 : w1.alloc (.cells #[.int .i64 x, .int .i64 y, .int .i64 t] 29) = v4 at *; have u1 := o3.cell 1 rfl; have u2 := o3.cell 2 rfl; have u3 := o3.cell 3 rfl; have f1 := o3.free 1; have f2 := o3.free 2; have f3 := o3.free 3; have x0 := o4.cell 0 rfl; have x1 := o4.cell 1 rfl; have x2 := o4.cell 2 rfl; have z0 := z3.cell 0 rfl; have z1 := z3.cell 1 rfl; have z2 := z3.cell 2 rfl; have g0 := z3.free 0; have g1 := z3.free 1; have g2 := z3.free 2)
    have o9 := set3 z3 (.int .i64 x) (.int .i64 y) (.int .i64 t)
    have r0 := o9.cell 0 rfl; have r1 := o9.cell 1 rfl; have r2 := o9.cell 2 rfl
    exact bodyPost_ret (v := .tuple #[.agg #[.int .i64 x, .int .i64 y, .int .i64 t], .int .i64 er]) (by simp [results, Try.results14, go_sem, r0, r1, r2]) rfl (hchg _ _ (set3_other o3 hne _ _ _) hok (set3_keeps (Keeps.new (F := F) hb) (.inr (Nat.le_refl _)) _ _ _) _)

set_option maxHeartbeats 2000000 in
set_option maxRecDepth 100000 in
theorem kRestoreC (p : Nat) (F : Nat → Prop) (c : ClockN) (s : StampN) (w : World) (h : ClkAt w p F c) (hs : FitT s) :
    Calls Try.prog 17 #[.pointer (some ⟨p, 0, none⟩), valT s] w (KChanged p F (restoreK c s).1 (.int .i64 (restoreK c s).2) w) := by
  have hchg := fun c' w' => h.chg (c' := c') (w' := w')
  have hF := h.own
  have hokt := restore_okK h.ok s
  have hok := h.ok
  have hfit := right_fit h.ok.right
  have o1 := h.is.1
  have HR := fun v => kRightC s v hs
  unfold restoreK at hokt ⊢
  rw [take_up] at hokt ⊢
  clear h
  obtain ⟨N, ⟨a, b, d⟩⟩ := c
  obtain ⟨x, y, t⟩ := s
  dsimp only at hchg hfit o1 hokt ⊢
  have HL := fun v => kLessC ⟨a, b, d⟩ ⟨x, y, d⟩ v hfit ⟨hs.wall, hs.count, hfit.dev⟩
  generalize rightT ⟨x, y, t⟩ = rs at *
  generalize lessT ⟨a, b, d⟩ ⟨x, y, d⟩ = ls at *
  unfold valT at *
  dsimp only at HR HL ⊢
  have hlt := o1.lt
  have hne : w.heap.size ≠ p := by omega
  have b0 := below_alloc w (.cells #[.int .i64 x, .int .i64 y, .int .i64 t] 29)
  have z := ObjAt.new w #[.int .i64 x, .int .i64 y, .int .i64 t] 29
  have o2 := o1.below b0 hlt
  have zl := z.lt
  clear hs hfit
  have z0 := z.cell 0 rfl; have z1 := z.cell 1 rfl; have z2 := z.cell 2 rfl
  cases rs with
  | false =>
    rw [if_pos rfl]
    go_enter Try.func17, Try.ntmps17
    go_wp2_with (go_at_call 21; (with_reducible refine (HR _).mono ?_); rintro e w1 ⟨rfl, hx⟩)
    go_ret
    exact hchg _ _ (o2.below hx o2.lt) hok (Keeps.new (b0.trans (hx.mono b0.size))) _
  | true =>
    rw [if_neg (by decide)] at hokt ⊢
    have RR : ∀ w1 : World, Below (w.alloc (.cells #[.int .i64 x, .int .i64 y, .int .i64 t] 29)).heap.size (w.alloc (.cells #[.int .i64 x, .int .i64 y, .int .i64 t] 29)) w1 → ObjAt (w1.setCell ⟨w.heap.size, 2, none⟩ (.int .i64 d)) p [.int .i64 N, .int .i64 a, .int .i64 b, .int .i64 d] ∧ ObjAt (w1.setCell ⟨w.heap.size, 2, none⟩ (.int .i64 d)) w.heap.size [.int .i64 x, .int .i64 y, .int .i64 d] ∧ Below w.heap.size w (w1.setCell ⟨w.heap.size, 2, none⟩ (.int .i64 d)) := fun w1 hx =>
      ⟨(o2.below hx o2.lt).other hne _, (z.below hx zl).set 2 _, (b0.trans (hx.mono b0.size)).setCell (p := ⟨w.heap.size, 2, none⟩) (Nat.le_refl _) _⟩
    cases ls with
    | true =>
      rw [if_pos rfl] at hokt ⊢
      go_enter Try.func17, Try.ntmps17
      go_wp2_with (go_at_call 21; (with_reducible refine (HR _).mono ?_); rintro e w1 ⟨rfl, hx⟩; have u3 := (o2.below hx o2.lt).cell 3 rfl; have z3 := (z.below hx zl).cell 2 rfl; have g3 := (z.below hx zl).free 2)
      refine any_some (fun wd => ObjAt wd p [.int .i64 N, .int .i64 a, .int .i64 b, .int .i64 d] ∧ ObjAt wd w.heap.size [.int .i64 x, .int .i64 y, .int .i64 d] ∧ Below w.heap.size w wd) (RR _ hx) ?_
      clear hx u3 z3 g3 o2 z b0 o1 RR z0 z1 z2
      rintro wd ⟨o2, z, hb⟩
      have ol := o2.lt; have zl := z.lt
      have hK : ∀ v, Below wd.heap.size wd v → v.cell? ⟨p, 1, none⟩ = some (.int .i64 a) ∧ v.cell? ⟨p, 2, none⟩ = some (.int .i64 b) ∧ v.cell? ⟨p, 3, none⟩ = some (.int .i64 d) ∧ v.cell? ⟨w.heap.size, 0, none⟩ = some (.int .i64 x) ∧ v.cell? ⟨w.heap.size, 1, none⟩ = some (.int .i64 y) ∧ v.cell? ⟨w.heap.size, 2, none⟩ = some (.int .i64 d) := fun v hv =>
        ⟨(o2.below hv ol).cell 1 rfl, (o2.below hv ol).cell 2 rfl, (o2.below hv ol).cell 3 rfl, (z.below hv zl).cell 0 rfl, (z.below hv zl).cell 1 rfl, (z.below hv zl).cell 2 rfl⟩
      have hX : Below wd.heap.size wd wd.drew := (Below.refl _ _).drew
      go_region_held3 (fun w' => w'.cell? ⟨p, 1, none⟩ = some (.int .i64 a) ∧ w'.cell? ⟨p, 2, none⟩ = some (.int .i64 b) ∧ w'.cell? ⟨p, 3, none⟩ = some (.int .i64 d) ∧ w'.cell? ⟨w.heap.size, 0, none⟩ = some (.int .i64 x) ∧ w'.cell? ⟨w.heap.size, 1, none⟩ = some (.int .i64 y) ∧ w'.cell? ⟨w.heap.size, 2, none⟩ = some (.int .i64 d))
        (exact hK _ hX)
        (first | (go_at_call 23; (with_reducible refine (HL _).mono ?_); rintro e w3 ⟨rfl, hy⟩; have hX := hX.trans (hy.mono hX.size); clear hy))
      all_goals (
        have o5 := o2.below hX ol; have z5 := z.below hX zl; have hb5 := hb.trans (hX.mono hb.size)
        have c0 := z5.cell 0 rfl; have c1 := z5.cell 1 rfl; have c2 := z5.cell 2 rfl; have d1 := o5.cell 1 rfl; have d2 := o5.cell 2 rfl; have d3 := o5.cell 3 rfl; have f1 := o5.free 1; have f2 := o5.free 2; have f3 := o5.free 3
        go_wp2
        go_ret
        exact hchg ⟨N, ⟨x, y, d⟩⟩ _ (((o5.set 1 _).set 2 _).set 3 _) hokt ((((Keeps.new (F := F) hb5).setCell (x := ⟨p, 1, none⟩) hF _).setCell (x := ⟨p, 2, none⟩) hF _).setCell (x := ⟨p, 3, none⟩) hF _) _)
    | false =>
      rw [if_neg (by decide)] at hokt ⊢
      go_enter Try.func17, Try.ntmps17
      go_wp2_with (go_at_call 21; (with_reducible refine (HR _).mono ?_); rintro e w1 ⟨rfl, hx⟩; have u3 := (o2.below hx o2.lt).cell 3 rfl; have z3 := (z.below hx zl).cell 2 rfl; have g3 := (z.below hx zl).free 2)
      refine any_some (fun wd => ObjAt wd p [.int .i64 N, .int .i64 a, .int .i64 b, .int .i64 d] ∧ ObjAt wd w.heap.size [.int .i64 x, .int .i64 y, .int .i64 d] ∧ Below w.heap.size w wd) (RR _ hx) ?_
      clear hx u3 z3 g3 o2 z b0 o1 RR z0 z1 z2
      rintro wd ⟨o2, z, hb⟩
      have ol := o2.lt; have zl := z.lt
      have hK : ∀ v, Below wd.heap.size wd v → v.cell? ⟨p, 1, none⟩ = some (.int .i64 a) ∧ v.cell? ⟨p, 2, none⟩ = some (.int .i64 b) ∧ v.cell? ⟨p, 3, none⟩ = some (.int .i64 d) ∧ v.cell? ⟨w.heap.size, 0, none⟩ = some (.int .i64 x) ∧ v.cell? ⟨w.heap.size, 1, none⟩ = some (.int .i64 y) ∧ v.cell? ⟨w.heap.size, 2, none⟩ = some (.int .i64 d) := fun v hv =>
        ⟨(o2.below hv ol).cell 1 rfl, (o2.below hv ol).cell 2 rfl, (o2.below hv ol).cell 3 rfl, (z.below hv zl).cell 0 rfl, (z.below hv zl).cell 1 rfl, (z.below hv zl).cell 2 rfl⟩
      have hX : Below wd.heap.size wd wd.drew := (Below.refl _ _).drew
      go_region_held3 (fun w' => w'.cell? ⟨p, 1, none⟩ = some (.int .i64 a) ∧ w'.cell? ⟨p, 2, none⟩ = some (.int .i64 b) ∧ w'.cell? ⟨p, 3, none⟩ = some (.int .i64 d) ∧ w'.cell? ⟨w.heap.size, 0, none⟩ = some (.int .i64 x) ∧ w'.cell? ⟨w.heap.size, 1, none⟩ = some (.int .i64 y) ∧ w'.cell? ⟨w.heap.size, 2, none⟩ = some (.int .i64 d))
        (exact hK _ hX)
        (first | (go_at_call 23; (with_reducible refine (HL _).mono ?_); rintro e w3 ⟨rfl, hy⟩; have hX := hX.trans (hy.mono hX.size); clear hy))
      all_goals (
        have o5 := o2.below hX ol; have z5 := z.below hX zl; have hb5 := hb.trans (hX.mono hb.size)
        go_wp2
        go_ret
        exact hchg _ _ o5 hok (Keeps.new hb5) _)

theorem hear_is (c : ClockN) (s : StampN) : hearK c s = if rightT s = true ∧ c.now + 60000 < s.wall then (c, 8) else restoreK c s := by
  unfold hearK restoreK
  cases rightT s with
  | false => simp
  | true => simp
theorem ClkAt.over {w w' : World} {p : Nat} {F : Nat → Prop} {c : ClockN} (h : ClkAt w p F c) (hb : Below w.heap.size w w') : ClkAt w' p F c :=
  h.keeps (Keeps.new (F := fun _ => False) hb) (fun _ _ h => h)

set_option maxHeartbeats 2000000 in
set_option maxRecDepth 100000 in
theorem kHearC (p : Nat) (F : Nat → Prop) (c : ClockN) (s : StampN) (w : World) (h : ClkAt w p F c) (hs : FitT s) :
    Calls Try.prog 16 #[.pointer (some ⟨p, 0, none⟩), valT s] w (KChanged p F (hearK c s).1 (.int .i64 (hearK c s).2) w) := by
  have hsame := fun v w' hb => h.same (w' := w') hb v
  have HS := fun v (hb : Below w.heap.size w v) => kRestoreC p F c s v (h.over hb) hs
  have HR := fun v => kRightC s v hs
  have o1 := h.is.1
  have n0 := h.ok.now0
  have n1 := h.ok.now1
  rw [hear_is]
  have hw1 : rightT s = true → IntKind.i64.wrap (s.wall - c.now) = s.wall - c.now := fun hr => by
    have := rightT_iff.1 hr
    rw [IntKind.wrap_i64]; omega
  clear h
  have hE := fun {v w1 e w'} (a1 : KChanged p F (restoreK c s).1 v w1 e w') (a2 : Below w.heap.size w w1) => a1.early a2
  generalize restoreK c s = R at *
  obtain ⟨N, ⟨a, b, d⟩⟩ := c
  obtain ⟨x, y, t⟩ := s
  obtain ⟨RC, re⟩ := R
  dsimp only at o1 n0 n1 hw1 HS hE hsame ⊢
  generalize rightT ⟨x, y, t⟩ = rs at *
  unfold valT at *
  dsimp only at HR HS ⊢
  have hlt := o1.lt
  have b0 := below_alloc w (.cells #[.int .i64 x, .int .i64 y, .int .i64 t] 29)
  have z := ObjAt.new w #[.int .i64 x, .int .i64 y, .int .i64 t] 29
  have o2 := o1.below b0 hlt
  have zl := z.lt
  have ol := o2.lt
  clear hs o1 n0 n1
  generalize hv1 : w.alloc (.cells #[.int .i64 x, .int .i64 y, .int .i64 t] 29) = v1 at *
  have hS0 : ∀ v, Below v1.heap.size v1 v → v.cell? ⟨w.heap.size, 0, none⟩ = some (.int .i64 x) ∧ v.cell? ⟨w.heap.size, 1, none⟩ = some (.int .i64 y) ∧ v.cell? ⟨w.heap.size, 2, none⟩ = some (.int .i64 t) ∧ v.cell? ⟨p, 0, none⟩ = some (.int .i64 N) := fun v hv => ⟨(z.below hv zl).cell 0 rfl, (z.below hv zl).cell 1 rfl, (z.below hv zl).cell 2 rfl, (o2.below hv ol).cell 0 rfl⟩
  have hB1 : Below v1.heap.size v1 v1.drew := (Below.refl _ _).drew
  cases rs with
  | false =>
    rw [if_neg (fun h => by cases h.1)]
    clear hw1
    go_enter Try.func16, Try.ntmps16
    go_wp2_with fail
    refine wp_region_held_drew (S := fun w' => w'.cell? ⟨w.heap.size, 0, none⟩ = some (.int .i64 x) ∧ w'.cell? ⟨w.heap.size, 1, none⟩ = some (.int .i64 y) ∧ w'.cell? ⟨w.heap.size, 2, none⟩ = some (.int .i64 t) ∧ w'.cell? ⟨p, 0, none⟩ = some (.int .i64 N)) (by kernel_rfl) (hS0 _ hB1) (fun hHeld => ?_)
    first
      | (refine wpAnyH_take (i := 0) rfl (by kernel_rfl) (by kernel_rfl) (by kernel_rfl) (fun _ _ _ h => h) (Or.inr ⟨by rfl, rfl⟩) (by assumption) ?_)
      | (refine wpAnyH_take (i := 0) (v := ?vhax0) rfl (by kernel_rfl) (by kernel_rfl) (by kernel_rfl) (fun _ _ _ h => h) (Or.inl ⟨by rfl, ?hyhax0⟩) (by assumption) ?rhax0; case hyhax0 => (rintro w' ⟨hs0, hs1, hs2, hs3⟩; go_simp; try with_reducible rfl))
    try simp only [List.getElem_toArray, List.getElem_cons_zero, Act.put, List.setIfInBounds_toArray, List.set_cons_zero, List.set_cons_succ]
    first
      | (refine wpAnyH_take (i := 1) rfl (by kernel_rfl) (by kernel_rfl) (by kernel_rfl) (fun _ _ _ h => h) (Or.inr ⟨by rfl, rfl⟩) (by assumption) ?_)
      | (refine wpAnyH_take (i := 1) (v := ?vhax1) rfl (by kernel_rfl) (by kernel_rfl) (by kernel_rfl) (fun _ _ _ h => h) (Or.inl ⟨by rfl, ?hyhax1⟩) (by assumption) ?rhax1; case hyhax1 => (rintro w' ⟨hs0, hs1, hs2, hs3⟩; go_simp; try with_reducible rfl))
    try simp only [List.getElem_toArray, List.getElem_cons_zero, List.getElem_cons_succ, Act.put, List.setIfInBounds_toArray, List.set_cons_zero, List.set_cons_succ]
    first
      | (refine wpAnyH_take (i := 2) rfl (by kernel_rfl) (by kernel_rfl) (by kernel_rfl) (fun _ _ _ h => h) (Or.inr ⟨by rfl, rfl⟩) (by assumption) ?_)
      | (refine wpAnyH_take (i := 2) (v := ?vhax2) rfl (by kernel_rfl) (by kernel_rfl) (by kernel_rfl) (fun _ _ _ h => h) (Or.inl ⟨by rfl, ?hyhax2⟩) (by assumption) ?rhax2; case hyhax2 => (rintro w' ⟨hs0, hs1, hs2, hs3⟩; go_simp; try with_reducible rfl))
    try simp only [List.getElem_toArray, List.getElem_cons_zero, List.getElem_cons_succ, Act.put, List.setIfInBounds_toArray, List.set_cons_zero, List.set_cons_succ]
    first
      | (refine wpAnyH_take (i := 3) rfl (by kernel_rfl) (by kernel_rfl) (by kernel_rfl) (fun _ _ _ h => h) (Or.inr ⟨by rfl, rfl⟩) (by assumption) ?_)
      | (refine wpAnyH_take (i := 3) (v := ?vhax3) rfl (by kernel_rfl) (by kernel_rfl) (by kernel_rfl) (fun _ _ _ h => h) (Or.inl ⟨by rfl, ?hyhax3⟩) (by assumption) ?rhax3; case hyhax3 => (rintro w' ⟨hs0, hs1, hs2, hs3⟩; go_simp; try with_reducible rfl))
    try simp only [List.getElem_toArray, List.getElem_cons_zero, List.getElem_cons_succ, Act.put, List.setIfInBounds_toArray, List.set_cons_zero, List.set_cons_succ]
    refine wpAnyH_ready (rs := [4]) (by kernel_rfl) (by simp) ?_
    refine AllReadyH.cons (o := _) rfl (fun K hK => ?_) AllReadyH.nil
    go_simp
    go_at_call 21; (with_reducible refine (HR _).mono ?_); rintro e w2 ⟨rfl, hx⟩; have hB1 := hB1.trans (hx.mono hB1.size); clear hx
    dsimp only
    refine hK.out _ _ (hS0 _ hB1) (fun hHeld => ?_)
    clear hK K
    try simp only [List.getElem_toArray, List.getElem_cons_zero, List.getElem_cons_succ, Act.put, List.setIfInBounds_toArray, List.set_cons_zero, List.set_cons_succ]
    first
      | (refine wpAnyH_take (i := 5) rfl (by kernel_rfl) (by kernel_rfl) (by kernel_rfl) (fun _ _ _ h => h) (Or.inr ⟨by rfl, rfl⟩) (by assumption) ?_)
      | (refine wpAnyH_take (i := 5) (v := ?vhax5) rfl (by kernel_rfl) (by kernel_rfl) (by kernel_rfl) (fun _ _ _ h => h) (Or.inl ⟨by rfl, ?hyhax5⟩) (by assumption) ?rhax5; case hyhax5 => (rintro w' ⟨hs0, hs1, hs2, hs3⟩; go_simp; try with_reducible rfl))
    try simp only [List.getElem_toArray, List.getElem_cons_zero, List.getElem_cons_succ, Act.put, List.setIfInBounds_toArray, List.set_cons_zero, List.set_cons_succ]
    first
      | (refine wpAnyH_take (i := 6) rfl (by kernel_rfl) (by kernel_rfl) (by kernel_rfl) (fun _ _ _ h => h) (Or.inr ⟨by rfl, rfl⟩) (by assumption) ?_)
      | (refine wpAnyH_take (i := 6) (v := ?vhax6) rfl (by kernel_rfl) (by kernel_rfl) (by kernel_rfl) (fun _ _ _ h => h) (Or.inl ⟨by rfl, ?hyhax6⟩) (by assumption) ?rhax6; case hyhax6 => (rintro w' ⟨hs0, hs1, hs2, hs3⟩; go_simp; try with_reducible rfl))
    try simp only [List.getElem_toArray, List.getElem_cons_zero, List.getElem_cons_succ, Act.put, List.setIfInBounds_toArray, List.set_cons_zero, List.set_cons_succ]
    first
      | (refine wpAnyH_take (i := 7) rfl (by kernel_rfl) (by kernel_rfl) (by kernel_rfl) (fun _ _ _ h => h) (Or.inr ⟨by rfl, rfl⟩) (by assumption) ?_)
      | (refine wpAnyH_take (i := 7) (v := ?vhax7) rfl (by kernel_rfl) (by kernel_rfl) (by kernel_rfl) (fun _ _ _ h => h) (Or.inl ⟨by rfl, ?hyhax7⟩) (by assumption) ?rhax7; case hyhax7 => (rintro w' ⟨hs0, hs1, hs2, hs3⟩; go_simp; try with_reducible rfl))
    try simp only [List.getElem_toArray, List.getElem_cons_zero, List.getElem_cons_succ, Act.put, List.setIfInBounds_toArray, List.set_cons_zero, List.set_cons_succ]
    first
      | (refine wpAnyH_take (i := 8) rfl (by kernel_rfl) (by kernel_rfl) (by kernel_rfl) (fun _ _ _ h => h) (Or.inr ⟨by rfl, rfl⟩) (by assumption) ?_)
      | (refine wpAnyH_take (i := 8) (v := ?vhax8) rfl (by kernel_rfl) (by kernel_rfl) (by kernel_rfl) (fun _ _ _ h => h) (Or.inl ⟨by rfl, ?hyhax8⟩) (by assumption) ?rhax8; case hyhax8 => (rintro w' ⟨hs0, hs1, hs2, hs3⟩; go_simp; try with_reducible rfl))
    try simp only [List.getElem_toArray, List.getElem_cons_zero, List.getElem_cons_succ, Act.put, List.setIfInBounds_toArray, List.set_cons_zero, List.set_cons_succ]
    first
      | (refine wpAnyH_take (i := 9) rfl (by kernel_rfl) (by kernel_rfl) (by kernel_rfl) (fun _ _ _ h => h) (Or.inr ⟨by rfl, rfl⟩) (by assumption) ?_)
      | (refine wpAnyH_take (i := 9) (v := ?vhax9) rfl (by kernel_rfl) (by kernel_rfl) (by kernel_rfl) (fun _ _ _ h => h) (Or.inl ⟨by rfl, ?hyhax9⟩) (by assumption) ?rhax9; case hyhax9 => (rintro w' ⟨hs0, hs1, hs2, hs3⟩; go_simp; try with_reducible rfl))
    try simp only [List.getElem_toArray, List.getElem_cons_zero, List.getElem_cons_succ, Act.put, List.setIfInBounds_toArray, List.set_cons_zero, List.set_cons_succ]
    first
      | (refine wpAnyH_take (i := 10) rfl (by kernel_rfl) (by kernel_rfl) (by kernel_rfl) (fun _ _ _ h => h) (Or.inr ⟨by rfl, rfl⟩) (by assumption) ?_)
      | (refine wpAnyH_take (i := 10) (v := ?vhax10) rfl (by kernel_rfl) (by kernel_rfl) (by kernel_rfl) (fun _ _ _ h => h) (Or.inl ⟨by rfl, ?hyhax10⟩) (by assumption) ?rhax10; case hyhax10 => (rintro w' ⟨hs0, hs1, hs2, hs3⟩; go_simp; try with_reducible rfl))
    try simp only [List.getElem_toArray, List.getElem_cons_zero, List.getElem_cons_succ, Act.put, List.setIfInBounds_toArray, List.set_cons_zero, List.set_cons_succ]
    first
      | (refine wpAnyH_take (i := 11) rfl (by kernel_rfl) (by kernel_rfl) (by kernel_rfl) (fun _ _ _ h => h) (Or.inr ⟨by rfl, rfl⟩) (by assumption) ?_)
      | (refine wpAnyH_take (i := 11) (v := ?vhax11) rfl (by kernel_rfl) (by kernel_rfl) (by kernel_rfl) (fun _ _ _ h => h) (Or.inl ⟨by rfl, ?hyhax11⟩) (by assumption) ?rhax11; case hyhax11 => (rintro w' ⟨hs0, hs1, hs2, hs3⟩; go_simp; try with_reducible rfl))
    try simp only [List.getElem_toArray, List.getElem_cons_zero, List.getElem_cons_succ, Act.put, List.setIfInBounds_toArray, List.set_cons_zero, List.set_cons_succ]
    first
      | (refine wpAnyH_take (i := 12) rfl (by kernel_rfl) (by kernel_rfl) (by kernel_rfl) (fun _ _ _ h => h) (Or.inr ⟨by rfl, rfl⟩) (by assumption) ?_)
      | (refine wpAnyH_take (i := 12) (v := ?vhax12) rfl (by kernel_rfl) (by kernel_rfl) (by kernel_rfl) (fun _ _ _ h => h) (Or.inl ⟨by rfl, ?hyhax12⟩) (by assumption) ?rhax12; case hyhax12 => (rintro w' ⟨hs0, hs1, hs2, hs3⟩; go_simp; try with_reducible rfl))
    try simp only [List.getElem_toArray, List.getElem_cons_zero, List.getElem_cons_succ, Act.put, List.setIfInBounds_toArray, List.set_cons_zero, List.set_cons_succ]
    first
      | (refine wpAnyH_take (i := 13) rfl (by kernel_rfl) (by kernel_rfl) (by kernel_rfl) (fun _ _ _ h => h) (Or.inr ⟨by rfl, rfl⟩) (by assumption) ?_)
      | (refine wpAnyH_take (i := 13) (v := ?vhax13) rfl (by kernel_rfl) (by kernel_rfl) (by kernel_rfl) (fun _ _ _ h => h) (Or.inl ⟨by rfl, ?hyhax13⟩) (by assumption) ?rhax13; case hyhax13 => (rintro w' ⟨hs0, hs1, hs2, hs3⟩; go_simp; try with_reducible rfl))
    try simp only [List.getElem_toArray, List.getElem_cons_zero, List.getElem_cons_succ, Act.put, List.setIfInBounds_toArray, List.set_cons_zero, List.set_cons_succ]
    first
      | (refine wpAnyH_take (i := 14) rfl (by kernel_rfl) (by kernel_rfl) (by kernel_rfl) (fun _ _ _ h => h) (Or.inr ⟨by rfl, rfl⟩) (by assumption) ?_)
      | (refine wpAnyH_take (i := 14) (v := ?vhax14) rfl (by kernel_rfl) (by kernel_rfl) (by kernel_rfl) (fun _ _ _ h => h) (Or.inl ⟨by rfl, ?hyhax14⟩) (by assumption) ?rhax14; case hyhax14 => (rintro w' ⟨hs0, hs1, hs2, hs3⟩; go_simp; try with_reducible rfl))
    try simp only [List.getElem_toArray, List.getElem_cons_zero, List.getElem_cons_succ, Act.put, List.setIfInBounds_toArray, List.set_cons_zero, List.set_cons_succ]
    first
      | (refine wpAnyH_take (i := 15) rfl (by kernel_rfl) (by kernel_rfl) (by kernel_rfl) (fun _ _ _ h => h) (Or.inr ⟨by rfl, rfl⟩) (by assumption) ?_)
      | (refine wpAnyH_take (i := 15) (v := ?vhax15) rfl (by kernel_rfl) (by kernel_rfl) (by kernel_rfl) (fun _ _ _ h => h) (Or.inl ⟨by rfl, ?hyhax15⟩) (by assumption) ?rhax15; case hyhax15 => (rintro w' ⟨hs0, hs1, hs2, hs3⟩; go_simp; try with_reducible rfl))
    try simp only [List.getElem_toArray, List.getElem_cons_zero, List.getElem_cons_succ, Act.put, List.setIfInBounds_toArray, List.set_cons_zero, List.set_cons_succ]
    refine wpAnyH_done (by kernel_rfl) ?_ _
    have hb5 := b0.trans (hB1.mono b0.size)
    have z5 := z.below hB1 zl
    have c0 := z5.cell 0 rfl; have c1 := z5.cell 1 rfl; have c2 := z5.cell 2 rfl
    go_wp2_with (go_at_call 17; (with_reducible refine (HS _ hb5).mono ?_); rintro e w6 hy; have hy1 := hy.1; subst hy1)
    go_ret
    exact hE hy hb5
  | true =>
    have hw1 := hw1 rfl
    by_cases q : N + 60000 < x
    · rw [if_pos ⟨rfl, q⟩]
      have d1 : decide (60000 < x - N) = true := decide_eq_true (by omega)
      go_enter Try.func16, Try.ntmps16
      go_wp2_with fail
      go_region_held3 (fun w' => w'.cell? ⟨w.heap.size, 0, none⟩ = some (.int .i64 x) ∧ w'.cell? ⟨w.heap.size, 1, none⟩ = some (.int .i64 y) ∧ w'.cell? ⟨w.heap.size, 2, none⟩ = some (.int .i64 t) ∧ w'.cell? ⟨p, 0, none⟩ = some (.int .i64 N))
        (exact hS0 _ hB1)
        (first | (go_at_call 21; (with_reducible refine (HR _).mono ?_); rintro e w2 ⟨rfl, hx⟩; have hB1 := hB1.trans (hx.mono hB1.size); clear hx))
      all_goals (
        go_wp2
        go_ret
        exact hsame _ _ (b0.trans (hB1.mono b0.size)))
    · rw [if_neg (fun h => q h.2)]
      have d1 : decide (60000 < x - N) = false := decide_eq_false (by omega)
      go_enter Try.func16, Try.ntmps16
      go_wp2_with fail
      go_region_held3 (fun w' => w'.cell? ⟨w.heap.size, 0, none⟩ = some (.int .i64 x) ∧ w'.cell? ⟨w.heap.size, 1, none⟩ = some (.int .i64 y) ∧ w'.cell? ⟨w.heap.size, 2, none⟩ = some (.int .i64 t) ∧ w'.cell? ⟨p, 0, none⟩ = some (.int .i64 N))
        (exact hS0 _ hB1)
        (first | (go_at_call 21; (with_reducible refine (HR _).mono ?_); rintro e w2 ⟨rfl, hx⟩; have hB1 := hB1.trans (hx.mono hB1.size); clear hx))
      all_goals (
        have hb5 := b0.trans (hB1.mono b0.size)
        have z5 := z.below hB1 zl
        have c0 := z5.cell 0 rfl; have c1 := z5.cell 1 rfl; have c2 := z5.cell 2 rfl
        go_wp2_with (go_at_call 17; (with_reducible refine (HS _ hb5).mono ?_); rintro e w6 hy; have hy1 := hy.1; subst hy1)
        go_ret
        exact hE hy hb5)
end Go.Proofs.Ytfdiomghoheljaa
