/- The program's own contracts of layer 19: which of two stamps is ahead (cmp.Or over three comparisons). -/
import Derived.Test.YtfdiomghoheljaaClockUp
import Derived.Test.YtfdiomghoheljaaKeeps
namespace Go.Proofs.Ytfdiomghoheljaa
open Go.RowKit
set_option linter.unusedVariables false

theorem or1 {a b c : Int} (h : a ≠ 0) : orN a b c = a := by unfold orN; rw [if_pos h]
theorem or2 {b c : Int} (h : b ≠ 0) : orN 0 b c = b := by unfold orN; rw [if_neg (by simp), if_pos h]
theorem or3 {c : Int} : orN 0 0 c = c := by unfold orN; rw [if_neg (by simp), if_neg (by simp)]

set_option maxRecDepth 100000 in
theorem orC (a b c : Int) (B : Nat) (w : World) (h : ObjAt w B [.int .i64 a, .int .i64 b, .int .i64 c]) :
    Calls Try.prog 40 #[.slice (some ⟨B, 0, none⟩) 3 3] w fun e w' => e = .returned (.int .i64 (orN a b c)) ∧ w = w' := by
  have u0 := h.cell 0 rfl; have u1 := h.cell 1 rfl; have u2 := h.cell 2 rfl
  clear h
  go_enter Try.func40, Try.ntmps40
  go_wp2
  go_loopw [8] (fun i wr => ∃ k : Nat, k ≤ 3 ∧ i = .int .i64 (k : Int) ∧ Hid ((0 < k → a = 0) ∧ (1 < k → b = 0) ∧ (2 < k → c = 0)) ∧ w = wr) (fun i _ => 3 - (intOf i).toNat)
  case atStart => exact ⟨0, Nat.zero_le _, rfl, ⟨fun h => absurd h (Nat.not_lt_zero _), fun h => absurd h (Nat.not_lt_zero _), fun h => absurd h (Nat.not_lt_zero _)⟩, rfl⟩
  case round =>
    obtain ⟨k, hk, rfl, hH, rfl⟩ := hrel
    match k, hk with
    | 0, _ =>
      by_cases q : a = 0
      · subst q
        go_wp2
        go_roundw
        case rel => exact ⟨1, by omega, rfl, ⟨(by first | trivial | (intros; first | rfl | omega)), (by first | trivial | (intros; first | rfl | omega)), (by first | trivial | (intros; first | rfl | omega))⟩, by first | rfl | trivial⟩
        case measure => simp [intOf]
      · have d0 : (a != 0) = true := bne_iff_ne.2 q
        go_wp2
        go_ret
        exact ⟨by rw [or1 q]; rfl, rfl⟩
    | 1, _ =>
      obtain rfl : a = 0 := hH.out.1 (by omega)
      by_cases q : b = 0
      · subst q
        go_wp2
        go_roundw
        case rel => exact ⟨2, by omega, rfl, ⟨(by first | trivial | (intros; first | rfl | omega)), (by first | trivial | (intros; first | rfl | omega)), (by first | trivial | (intros; first | rfl | omega))⟩, by first | rfl | trivial⟩
        case measure => simp [intOf]
      · have d0 : (b != 0) = true := bne_iff_ne.2 q
        go_wp2
        go_ret
        exact ⟨by rw [or2 q]; rfl, rfl⟩
    | 2, _ =>
      obtain rfl : a = 0 := hH.out.1 (by omega)
      obtain rfl : b = 0 := hH.out.2.1 (by omega)
      by_cases q : c = 0
      · subst q
        go_wp2
        go_roundw
        case rel => exact ⟨3, by omega, rfl, ⟨(by first | trivial | (intros; first | rfl | omega)), (by first | trivial | (intros; first | rfl | omega)), (by first | trivial | (intros; first | rfl | omega))⟩, by first | rfl | trivial⟩
        case measure => simp [intOf]
      · have d0 : (c != 0) = true := bne_iff_ne.2 q
        go_wp2
        go_ret
        exact ⟨by rw [or3]; rfl, rfl⟩
    | 3, _ =>
      obtain rfl : a = 0 := hH.out.1 (by omega)
      obtain rfl : b = 0 := hH.out.2.1 (by omega)
      obtain rfl : c = 0 := hH.out.2.2 (by omega)
      go_wp2
      go_ret
      exact ⟨by rw [or3]; rfl, rfl⟩
    | k + 4, h => exact absurd h (by omega)

set_option maxRecDepth 100000 in
theorem kLessC (s t : StampN) (w : World) (hs : FitT s) (ht : FitT t) : Calls Try.prog 23 #[valT s, valT t] w fun e w' => e = .returned (.bool (lessT s t)) ∧ Below w.heap.size w w' := by
  rw [← or_less]
  obtain ⟨a, b, d⟩ := s
  obtain ⟨i, j, k⟩ := t
  unfold valT
  dsimp only
  obtain ⟨o1, o2, hb⟩ := objs2 w #[.int .i64 a, .int .i64 b, .int .i64 d] #[.int .i64 i, .int .i64 j, .int .i64 k] 29 29
  have u0 := o1.cell 0 rfl; have u1 := o1.cell 1 rfl; have u2 := o1.cell 2 rfl
  have v0 := o2.cell 0 rfl; have v1 := o2.cell 1 rfl; have v2 := o2.cell 2 rfl
  have H1 := fun v => cmpIntC a i v
  have H2 := fun v => cmpIntC b j v
  have H3 := fun v => cmpIntC d k v
  have HO := fun x y z B v h => orC x y z B v h
  generalize cmpN a i = x at *
  generalize cmpN b j = y at *
  generalize cmpN d k = z at *
  clear hs ht
  generalize hw0 : (w.alloc (.cells #[.int .i64 a, .int .i64 b, .int .i64 d] 29)).alloc (.cells #[.int .i64 i, .int .i64 j, .int .i64 k] 29) = w0 at *
  have hb0 : ∀ o : Obj, Below w.heap.size w (w0.alloc o).drew := fun o => hb.trans ((below_alloc w0 o).drew.mono hb.size)
  have oN := (ObjAt.new w0 #[.int .i64 x, .int .i64 y, .int .i64 z] 3).drew
  have l1 := o1.lt
  have l2 := o2.lt
  have hK : ∀ v, Below w0.heap.size w0 v → v.cell? ⟨w.heap.size, 0, none⟩ = some (.int .i64 a) ∧ v.cell? ⟨w.heap.size, 1, none⟩ = some (.int .i64 b) ∧ v.cell? ⟨w.heap.size, 2, none⟩ = some (.int .i64 d) ∧ v.cell? ⟨w.heap.size + 1, 0, none⟩ = some (.int .i64 i) ∧ v.cell? ⟨w.heap.size + 1, 1, none⟩ = some (.int .i64 j) ∧ v.cell? ⟨w.heap.size + 1, 2, none⟩ = some (.int .i64 k) := fun v hv =>
    ⟨(o1.below hv l1).cell 0 rfl, (o1.below hv l1).cell 1 rfl, (o1.below hv l1).cell 2 rfl, (o2.below hv l2).cell 0 rfl, (o2.below hv l2).cell 1 rfl, (o2.below hv l2).cell 2 rfl⟩
  go_enter Try.func23, Try.ntmps23
  go_wp2_with fail
  go_region_held3 (fun w' => w'.cell? ⟨w.heap.size, 0, none⟩ = some (.int .i64 a) ∧ w'.cell? ⟨w.heap.size, 1, none⟩ = some (.int .i64 b) ∧ w'.cell? ⟨w.heap.size, 2, none⟩ = some (.int .i64 d) ∧ w'.cell? ⟨w.heap.size + 1, 0, none⟩ = some (.int .i64 i) ∧ w'.cell? ⟨w.heap.size + 1, 1, none⟩ = some (.int .i64 j) ∧ w'.cell? ⟨w.heap.size + 1, 2, none⟩ = some (.int .i64 k))
    (first | exact hK _ (Below.refl _ _) | exact hK _ ((Below.refl _ _).drew) | exact hK _ ((below_alloc w0 _).drew) | exact hK _ (below_alloc w0 _))
    (first
      | (go_at_call 41; (with_reducible refine (H1 _).mono ?_); rintro e w1 ⟨rfl, rfl⟩)
      | (go_at_call 41; (with_reducible refine (H2 _).mono ?_); rintro e w1 ⟨rfl, rfl⟩)
      | (go_at_call 41; (with_reducible refine (H3 _).mono ?_); rintro e w1 ⟨rfl, rfl⟩)
      | (go_at_call 40; (with_reducible refine (HO x y z _ _ oN).mono ?_); rintro e w1 ⟨rfl, rfl⟩))
  all_goals (
    go_wp2
    go_ret
    exact ⟨rfl, hb0 _⟩)
end Go.Proofs.Ytfdiomghoheljaa
