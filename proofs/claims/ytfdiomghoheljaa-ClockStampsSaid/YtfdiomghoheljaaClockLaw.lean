/- The example that each law of layer 19 asks for; a step, done by the program's clock and the document's. -/
import Derived.Test.YtfdiomghoheljaaClockProg
namespace Go.Proofs.Ytfdiomghoheljaa
open Go.RowKit
set_option linter.unusedVariables false

theorem clock_ex1 : (tickK ⟨0, ⟨0, 0, 3⟩⟩ 5) = (⟨5, ⟨0, 0, 3⟩⟩, 0) := by kernel_rfl
theorem clock_ex2 : peekK ⟨5, ⟨0, 0, 3⟩⟩ = (⟨5, 0, 3⟩, 0) := by kernel_rfl
theorem clock_ex3 : nextK ⟨5, ⟨0, 0, 3⟩⟩ = ⟨5, ⟨5, 0, 3⟩⟩ := by kernel_rfl
theorem clock_ex4 : peekK ⟨5, ⟨5, 0, 3⟩⟩ = (⟨5, 1, 3⟩, 0) := by kernel_rfl

theorem ClkAt.below {w w' : World} {p : Nat} {F : Nat → Prop} {c : ClockN} (h : ClkAt w p F c) (hb : Below w.heap.size w w') : ClkAt w' p F c :=
  h.keeps (Keeps.new (F := fun _ => False) hb) (fun _ _ h => h)

theorem eqStamp (a b d : Int) (w : World) : Sem.run Try.prog (Op.equalIn 10000 29 (.agg #[.int .i64 a, .int .i64 b, .int .i64 d]) (.agg #[.int .i64 a, .int .i64 b, .int .i64 d])) w = Result.ok true w := by
  simp [go_sem]

set_option maxRecDepth 100000 in
theorem awake19C (w : World) : Calls Try.prog 8 #[] w fun e w' => e = .returned (.bool true) ∧ Below w.heap.size w w' := by
  have HN := fun v => kNewYes 3 v ⟨by decide, by decide⟩
  have HT := fun p F v h => kTickC p F ⟨0, ⟨0, 0, 3⟩⟩ 5 v h ⟨by decide, by decide⟩
  have H1 := fun p F v h => kNextC p F ⟨5, ⟨0, 0, 3⟩⟩ v h
  have H2 := fun p F v h => kNextC p F ⟨5, ⟨5, 0, 3⟩⟩ v h
  simp only [clock_ex1] at HT
  simp only [clock_ex2, clock_ex3] at H1
  simp only [clock_ex4] at H2
  unfold KChanged at HT H1 H2
  unfold valT at H1 H2
  dsimp only at HT H1 H2
  go_enter Try.func8, Try.ntmps8
  go_wp2_with (first
    | (go_at_call 9; (with_reducible refine (HN _).mono ?_); rintro e w1 ⟨p, F1, rfl, k1, n1, hx1⟩)
    | (go_at_call 13; (with_reducible refine (HT _ _ _ k1).mono ?_); rintro e w2 ⟨rfl, F2, k2, hk2, n2⟩; have hb2 := hx1.trans (hk2.below hx1.size (fun i _ h => n1 i h)))
    | (go_at_call 14; (with_reducible refine (H1 _ _ _ k2).mono ?_); rintro e w3 ⟨rfl, F3, k3, hk3, n3⟩; have hb3 := hb2.trans (hk3.below hb2.size (fun i _ h => (n2 i h).elim (n1 i) (fun h => Nat.le_trans hx1.size h))); have o3 := ObjAt.new w3 #[.int .i64 5, .int .i64 0, .int .i64 3] 29; have y3 := below_alloc w3 (.cells #[.int .i64 5, .int .i64 0, .int .i64 3] 29); have k3 := k3.below y3; have hb3 := hb3.trans (y3.mono hb3.size); have l3 := y3.size; have q3 : ∀ k, F3 k → k ≠ w3.heap.size := (fun k h e => by have := (‹ClkAt w3 p F3 _›).lt k h; omega); generalize hv3 : w3.alloc (.cells #[.int .i64 5, .int .i64 0, .int .i64 3] 29) = v3 at *)
    | (go_at_call 14; (with_reducible refine (H2 _ _ _ k3).mono ?_); rintro e w4 ⟨rfl, F4, k4, hk4, n4⟩; have o4 := o3.keeps hk4 (fun h => q3 _ h rfl); have z2 := hb2.size; have z1 := hx1.size; have zk := hk3.size; have hb4 := hb3.trans (hk4.below hb3.size (fun i _ h => (n3 i h).elim (fun h => (n2 i h).elim (n1 i) (fun h => by omega)) (fun h => by omega))); have o5 := ObjAt.new w4 #[.int .i64 5, .int .i64 1, .int .i64 3] 29; have y5 := below_alloc w4 (.cells #[.int .i64 5, .int .i64 1, .int .i64 3] 29); have o4 := o4.below y5 o4.lt; have hb5 := hb4.trans (y5.mono hb4.size); generalize hv5 : w4.alloc (.cells #[.int .i64 5, .int .i64 1, .int .i64 3] 29) = v5 at *; have u0 := o4.cell 0 rfl; have u1 := o4.cell 1 rfl; have u2 := o4.cell 2 rfl; have s0 := o5.cell 0 rfl; have s1 := o5.cell 1 rfl; have s2 := o5.cell 2 rfl))
  go_ret
  exact ⟨rfl, hb5⟩
end Go.Proofs.Ytfdiomghoheljaa
