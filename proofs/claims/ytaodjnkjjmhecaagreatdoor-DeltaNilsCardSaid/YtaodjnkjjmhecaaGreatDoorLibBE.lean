/- Contracts and plain words that the laws' proofs stand on. -/
import Derived.Test.YtaodjnkjjmhecaaGreatDoorLibAA
namespace Go.Proofs.YtaodjnkjjmhecaaGreatDoor
open Go.RowKit
set_option linter.unusedVariables false
def upB (n m : Int) : Bool := decide (0 ≤ n) && decide (n ≤ m)
theorem upToC (m : Int) (w : World) :
    Calls Tryz.prog 148 #[.int .i64 m] w fun e w' => ∃ p, e = .returned (.func (.func 180) #[] #[.pointer (some ⟨p, 0, none⟩)]) ∧ ObjAt w' p [.int .i64 m] ∧ Below w.heap.size w w' := by
  have o1 := ObjAt.new w #[.int .i64 m] 3
  have hb := below_alloc w (.cells #[.int .i64 m] 3)
  go_enter Tryz.func148, Tryz.ntmps148
  go_wp2
  go_ret
  exact ⟨_, rfl, o1, hb⟩
theorem upToIn (n m : Int) (p : Nat) (w : World) (h : ObjAt w p [.int .i64 m]) :
    Calls Tryz.prog 180 #[.int .i64 n, .pointer (some ⟨p, 0, none⟩)] w fun e w' => e = .returned (.bool (upB n m)) ∧ w = w' := by
  have u0 := h.cell 0 rfl
  unfold upB
  by_cases q0 : 0 ≤ n
  · have d0 : decide (0 ≤ n) = true := decide_eq_true q0
    by_cases q1 : n ≤ m
    · have d1 : decide (n ≤ m) = true := decide_eq_true q1
      go_enter Tryz.func180, Tryz.ntmps180
      go_wp2
      go_ret
      exact ⟨by first | rfl | (rw [d0, d1]; rfl), rfl⟩
    · have d1 : decide (n ≤ m) = false := decide_eq_false q1
      go_enter Tryz.func180, Tryz.ntmps180
      go_wp2
      go_ret
      exact ⟨by first | rfl | (rw [d0, d1]; rfl), rfl⟩
  · have d0 : decide (0 ≤ n) = false := decide_eq_false q0
    go_enter Tryz.func180, Tryz.ntmps180
    go_wp2
    go_ret
    exact ⟨by first | rfl | (rw [d0]; rfl), rfl⟩
theorem rightT_up (a b d : Int) : rightT ⟨a, b, d⟩ = (upB a 4398046511104 && (upB b 65535 && upB d 63)) := by
  unfold rightT upB
  simp only [Bool.and_assoc]
set_option maxHeartbeats 4000000 in
set_option maxRecDepth 100000 in
theorem kRightU (s : StampN) (w : World) : Calls Tryz.prog 110 #[valT s] w fun e w' => e = .returned (.bool (rightT s)) ∧ Below w.heap.size w w' := by
  obtain ⟨a, b, d⟩ := s
  unfold valT
  dsimp only
  rw [rightT_up]
  have o1 := ObjAt.new w #[.int .i64 a, .int .i64 b, .int .i64 d] 37
  have hb := below_alloc w (.cells #[.int .i64 a, .int .i64 b, .int .i64 d] 37)
  have h0 := o1.lt
  have HU := fun m v => upToC m v
  have H1 := fun p v h => upToIn a 4398046511104 p v h
  have H2 := fun p v h => upToIn b 65535 p v h
  have H3 := fun p v h => upToIn d 63 p v h
  generalize upB a 4398046511104 = b1 at *
  generalize upB b 65535 = b2 at *
  generalize upB d 63 = b3 at *
  cases b1 <;> cases b2 <;> cases b3
  all_goals (
    go_enter Tryz.func110, Tryz.ntmps110
    go_wp2_with (first
      | (go_at_call 148; (with_reducible refine (HU 4398046511104 _).mono ?_); rintro e w1 ⟨p1, rfl, q1, hx⟩; have o2 := o1.below hx h0; have hb1 := hb.trans (hx.mono hb.size); have h1 := Nat.lt_of_lt_of_le h0 hx.size; clear hx)
      | (go_at_call 148; (with_reducible refine (HU 65535 _).mono ?_); rintro e w2 ⟨p2, rfl, q2, hx⟩; have o3 := o2.below hx h1; have q12 := q1.below hx q1.lt; have hb2 := hb1.trans (hx.mono hb1.size); have h2 := Nat.lt_of_lt_of_le h1 hx.size; clear hx)
      | (go_at_call 148; (with_reducible refine (HU 63 _).mono ?_); rintro e w3 ⟨p3, rfl, q3, hx⟩; have o4 := o3.below hx h2; have q13 := q12.below hx q12.lt; have q23 := q2.below hx q2.lt; have hb3 := hb2.trans (hx.mono hb2.size); have u0 := o4.cell 0 rfl; have u1 := o4.cell 1 rfl; have u2 := o4.cell 2 rfl; clear hx)
      | (go_at_call 180; (with_reducible refine (H1 _ _ q13).mono ?_); rintro e w4 ⟨rfl, rfl⟩)
      | (go_at_call 180; (with_reducible refine (H2 _ _ q23).mono ?_); rintro e w4 ⟨rfl, rfl⟩)
      | (go_at_call 180; (with_reducible refine (H3 _ _ q3).mono ?_); rintro e w4 ⟨rfl, rfl⟩))
    go_ret
    exact ⟨rfl, hb3⟩)
end Go.Proofs.YtaodjnkjjmhecaaGreatDoor
