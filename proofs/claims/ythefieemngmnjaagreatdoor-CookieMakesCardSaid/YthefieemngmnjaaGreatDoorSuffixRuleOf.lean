/- Contracts of layer 9: a rule, parted. -/
import Derived.Test.YthefieemngmnjaaGreatDoorLibAI
import Derived.Test.YthefieemngmnjaaGreatDoorStrsIn
import Derived.Test.YthefieemngmnjaaGreatDoorLibAD
import Derived.Test.YthefieemngmnjaaGreatDoorLibAA
namespace Go.Proofs.YthefieemngmnjaaGreatDoor
open Go.RowKit
set_option linter.unusedVariables false

theorem cutStarC (l : List UInt8) (w : World) : Calls Tryz.prog 71 #[.string (str l), .string ⟨#[42, 46]⟩] w fun e w' => e = .returned (.tuple #[.string (str (Lib.trimPrefix l [42, 46])), .bool (Lib.hasPrefix l [42, 46])]) ∧ w = w' := by
  refine (Tryz.strings_CutPrefix (str l) ⟨#[42, 46]⟩ w).mono ?_
  rintro e w' ⟨rfl, rfl⟩
  rw [str_data]
  exact ⟨rfl, rfl⟩

theorem cutBangC (l : List UInt8) (w : World) : Calls Tryz.prog 71 #[.string (str l), .string ⟨#[33]⟩] w fun e w' => e = .returned (.tuple #[.string (str (Lib.trimPrefix l [33])), .bool (Lib.hasPrefix l [33])]) ∧ w = w' := by
  refine (Tryz.strings_CutPrefix (str l) ⟨#[33]⟩ w).mono ?_
  rintro e w' ⟨rfl, rfl⟩
  rw [str_data]
  exact ⟨rfl, rfl⟩

theorem countC (l : List UInt8) (n : Nat) (w : World) (hl : l.length = n) (hm : n ≤ maxLen) (hT : PTab Tryz.prog w) :
    Calls Tryz.prog 113 #[.string (str l)] w fun e w' => (∃ a c, e = .returned (.slice a (countN l) c)) ∧ Below w.heap.size w w' := by
  refine (labelsC l n w hl hm hT).mono ?_
  intro e w' h
  unfold LabelsIs at h
  unfold countN
  by_cases hn : nameB l = true
  · rw [if_pos hn] at h ⊢
    unfold GivesStrs at h
    obtain ⟨a, c, rfl, ho, hb⟩ := h
    exact ⟨⟨a, c, rfl⟩, hb⟩
  · rw [if_neg hn] at h ⊢
    exact ⟨⟨none, 0, h.1⟩, h.2⟩

theorem count_le (l : List UInt8) : countN l ≤ l.length + 1 := by
  unfold countN
  split
  · exact splitL_le l 46
  · exact Nat.zero_le _

/-- Two objects of the call's own, one behind the other. -/
theorem two_objs (w : World) (e : TypeId) (k : Int) (x : List UInt8) (m : Int) :
    ObjAt ((w.alloc (.cells #[.int .i64 0, .string { data := #[] }, .int .i64 0] e)).alloc (.cells #[.int .i64 k, .string (str x), .int .i64 m] e)) w.heap.size [.int .i64 0, .string { data := #[] }, .int .i64 0] ∧
    ObjAt ((w.alloc (.cells #[.int .i64 0, .string { data := #[] }, .int .i64 0] e)).alloc (.cells #[.int .i64 k, .string (str x), .int .i64 m] e)) (w.heap.size + 1) [.int .i64 k, .string (str x), .int .i64 m] ∧
    Below w.heap.size w ((w.alloc (.cells #[.int .i64 0, .string { data := #[] }, .int .i64 0] e)).alloc (.cells #[.int .i64 k, .string (str x), .int .i64 m] e)) := by
  have h := ObjAt.new w #[.int .i64 0, .string { data := #[] }, .int .i64 0] e
  have hb := (Below.refl w.heap.size w).alloc (Nat.le_refl _) (.cells #[.int .i64 0, .string { data := #[] }, .int .i64 0] e)
  have hs : (w.alloc (.cells #[.int .i64 0, .string { data := #[] }, .int .i64 0] e)).heap.size = w.heap.size + 1 := by simp
  generalize w.alloc (.cells #[.int .i64 0, .string { data := #[] }, .int .i64 0] e) = v at *
  have h2 := ObjAt.new v #[.int .i64 k, .string (str x), .int .i64 m] e
  have hb2 := (Below.refl v.heap.size v).alloc (Nat.le_refl _) (.cells #[.int .i64 k, .string (str x), .int .i64 m] e)
  rw [hs] at h2
  exact ⟨h.below hb2 h.lt, h2, hb.alloc (by omega) _⟩

def RuleIs (l : List UInt8) (w : World) (e : Ending) (w' : World) : Prop := e = .returned (.tuple #[.agg #[.int .i64 (ruleK l).kind, .string (str (ruleK l).name), .int .i64 (ruleK l).labels], .bool (ruleB l)]) ∧ Below w.heap.size w w'

set_option maxHeartbeats 1000000 in
set_option maxRecDepth 100000 in
theorem ruleOfC (l : List UInt8) (n : Nat) (w : World) (hl : l.length = n) (hm : n ≤ 1000) (hT : PTab Tryz.prog w) :
    Calls Tryz.prog 76 #[.string (str l)] w (RuleIs l w) := by
  have hb := Below.refl w.heap.size w
  have HS := fun w => cutStarC l w
  have HB := fun w => cutBangC l w
  have hok := ok_rule l
  unfold okK ruleK at hok
  have hG2 : RuleIs l w = fun e w' => e = .returned (.tuple #[.agg #[.int .i64 (ruleK l).kind, .string (str (ruleK l).name), .int .i64 (ruleK l).labels], .bool (ruleB l)]) ∧ Below w.heap.size w w' := rfl
  rw [← hok] at hG2
  unfold ruleK at hG2
  unfold Lib.trimPrefix at HS HB
  by_cases c1 : Lib.hasPrefix l [42, 46] = true
  · rw [if_pos c1] at hG2 hok
    rw [c1, if_pos rfl] at HS
    change ∀ w, Calls Tryz.prog 71 #[.string (str l), .string ⟨#[42, 46]⟩] w fun e w' => e = .returned (.tuple #[.string (str (l.drop 2)), .bool true]) ∧ w = w' at HS
    have HC := fun w (h : PTab Tryz.prog w) => countC (l.drop 2) (l.drop 2).length w rfl (by rw [List.length_drop]; unfold maxLen; omega) h
    have hc := count_le (l.drop 2)
    rw [List.length_drop, hl] at hc
    rw [hG2]
    clear hG2 hok HB c1
    generalize countN (l.drop 2) = c at *
    generalize l.drop 2 = x at *
    dsimp only
    by_cases h0 : 0 < c
    · rw [decide_eq_true h0, decide_eq_true (show (0 : Int) < 1 + (c : Int) by omega), Bool.true_and]
      have k1 : (0 : Int) < (c : Int) := by omega
      have k2 : (0 : Int) < 1 + (c : Int) := by omega
      obtain ⟨o0, o1, hb2⟩ := two_objs w 102 1 x 1
      have hT2 := hT.below hb2
      go_enter Tryz.func76, Tryz.ntmps76
      go_wp2_with (first
        | (go_at_call 113; (with_reducible refine (HC _ hT2).mono ?_); rintro e w1 ⟨⟨a, q, rfl⟩, hx⟩; have o0 := o0.below hx o0.lt; have o1 := o1.below hx o1.lt; have hb2 := hb2.trans (hx.mono hb2.size); clear hx
           have c0 := o0.cell 0 rfl; have c1 := o0.cell 1 rfl; have c2 := o0.cell 2 rfl; have d0 := o1.cell 0 rfl; have d1 := o1.cell 1 rfl; have d2 := o1.cell 2 rfl
           have f0 := o0.free 0; have f1 := o0.free 1; have f2 := o0.free 2; have g0 := o1.free 0; have g1 := o1.free 1; have g2 := o1.free 2)
        | (go_at_call 71; (with_reducible refine (HS _).mono ?_); rintro e w1 ⟨rfl, rfl⟩))
      go_region
      go_wp2
      have hP := ((((o0.other (p := ⟨w.heap.size + 1, 2, none⟩) (Nat.succ_ne_self _) (.int .i64 (1 + (c : Int)))).set 0 (.int .i64 1)).set 1 (.string (str x))).set 2 (.int .i64 (1 + (c : Int)))).drew
      have hB := ((((hb2.setCell (p := ⟨w.heap.size + 1, 2, none⟩) (Nat.le_succ _) (.int .i64 (1 + (c : Int)))).setCell (p := ⟨w.heap.size, 0, none⟩) (Nat.le_refl _) (.int .i64 1)).setCell (p := ⟨w.heap.size, 1, none⟩) (Nat.le_refl _) (.string (str x))).setCell (p := ⟨w.heap.size, 2, none⟩) (Nat.le_refl _) (.int .i64 (1 + (c : Int)))).drew
      clear c0 c1 c2 d0 d1 d2 f0 f1 f2 g0 g1 g2 o0 o1 hb2
      have r0 := hP.cell 0 rfl
      have r1 := hP.cell 1 rfl
      have r2 := hP.cell 2 rfl
      exact bodyPost_ret (v := .tuple #[.agg #[.int .i64 1, .string (str x), .int .i64 (1 + (c : Int))], .bool true]) (by simp [results, Tryz.results76, go_sem, r0, r1, r2]) rfl ⟨rfl, hB⟩
    · rw [decide_eq_false h0, Bool.false_and]
      have k1 : ¬ (0 : Int) < (c : Int) := by omega
      obtain ⟨o0, o1, hb2⟩ := two_objs w 102 1 x 1
      have hT2 := hT.below hb2
      go_enter Tryz.func76, Tryz.ntmps76
      go_wp2_with (first
        | (go_at_call 113; (with_reducible refine (HC _ hT2).mono ?_); rintro e w1 ⟨⟨a, q, rfl⟩, hx⟩; have o0 := o0.below hx o0.lt; have o1 := o1.below hx o1.lt; have hb2 := hb2.trans (hx.mono hb2.size); clear hx
           have c0 := o0.cell 0 rfl; have c1 := o0.cell 1 rfl; have c2 := o0.cell 2 rfl; have d0 := o1.cell 0 rfl; have d1 := o1.cell 1 rfl; have d2 := o1.cell 2 rfl
           have f0 := o0.free 0; have f1 := o0.free 1; have f2 := o0.free 2; have g0 := o1.free 0; have g1 := o1.free 1; have g2 := o1.free 2)
        | (go_at_call 71; (with_reducible refine (HS _).mono ?_); rintro e w1 ⟨rfl, rfl⟩))
      go_region
      go_wp2
      have hP := ((((o0.other (p := ⟨w.heap.size + 1, 2, none⟩) (Nat.succ_ne_self _) (.int .i64 (1 + (c : Int)))).set 0 (.int .i64 1)).set 1 (.string (str x))).set 2 (.int .i64 (1 + (c : Int)))).drew
      have hB := ((((hb2.setCell (p := ⟨w.heap.size + 1, 2, none⟩) (Nat.le_succ _) (.int .i64 (1 + (c : Int)))).setCell (p := ⟨w.heap.size, 0, none⟩) (Nat.le_refl _) (.int .i64 1)).setCell (p := ⟨w.heap.size, 1, none⟩) (Nat.le_refl _) (.string (str x))).setCell (p := ⟨w.heap.size, 2, none⟩) (Nat.le_refl _) (.int .i64 (1 + (c : Int)))).drew
      clear c0 c1 c2 d0 d1 d2 f0 f1 f2 g0 g1 g2 o0 o1 hb2
      have r0 := hP.cell 0 rfl
      have r1 := hP.cell 1 rfl
      have r2 := hP.cell 2 rfl
      exact bodyPost_ret (v := .tuple #[.agg #[.int .i64 1, .string (str x), .int .i64 (1 + (c : Int))], .bool false]) (by simp [results, Tryz.results76, go_sem, r0, r1, r2]) rfl ⟨rfl, hB⟩
  · rw [if_neg c1] at hG2 hok
    rw [if_neg c1, Bool.eq_false_iff.2 c1] at HS
    by_cases c2 : Lib.hasPrefix l [33] = true
    · rw [if_pos c2] at hG2 hok
      rw [c2, if_pos rfl] at HB
      change ∀ w, Calls Tryz.prog 71 #[.string (str l), .string ⟨#[33]⟩] w fun e w' => e = .returned (.tuple #[.string (str (l.drop 1)), .bool true]) ∧ w = w' at HB
      have HC := fun w (h : PTab Tryz.prog w) => countC (l.drop 1) (l.drop 1).length w rfl (by rw [List.length_drop]; unfold maxLen; omega) h
      have hc := count_le (l.drop 1)
      rw [List.length_drop, hl] at hc
      rw [hG2]
      clear hG2 hok c1 c2
      generalize countN (l.drop 1) = c at *
      generalize l.drop 1 = x at *
      dsimp only
      by_cases h0 : 0 < c
      · rw [decide_eq_true h0, Bool.true_and]
        have k1 : (0 : Int) < (c : Int) := by omega
        by_cases h2 : (0 : Int) < -1 + (c : Int)
        · rw [decide_eq_true h2]
          obtain ⟨o0, o1, hb2⟩ := two_objs w 102 2 x (-1)
          have hT2 := hT.below hb2
          go_enter Tryz.func76, Tryz.ntmps76
          go_wp2_with (first
            | (go_at_call 113; (with_reducible refine (HC _ hT2).mono ?_); rintro e w1 ⟨⟨a, q, rfl⟩, hx⟩; have o0 := o0.below hx o0.lt; have o1 := o1.below hx o1.lt; have hb2 := hb2.trans (hx.mono hb2.size); clear hx
               have c0 := o0.cell 0 rfl; have c1 := o0.cell 1 rfl; have c2 := o0.cell 2 rfl; have d0 := o1.cell 0 rfl; have d1 := o1.cell 1 rfl; have d2 := o1.cell 2 rfl
               have f0 := o0.free 0; have f1 := o0.free 1; have f2 := o0.free 2; have g0 := o1.free 0; have g1 := o1.free 1; have g2 := o1.free 2)
            | (go_at_call 71; (with_reducible refine (HS _).mono ?_); rintro e w1 ⟨rfl, rfl⟩)
            | (go_at_call 71; (with_reducible refine (HB _).mono ?_); rintro e w1 ⟨rfl, rfl⟩))
          go_region
          go_wp2
          have hP := ((((o0.other (p := ⟨w.heap.size + 1, 2, none⟩) (Nat.succ_ne_self _) (.int .i64 (-1 + (c : Int)))).set 0 (.int .i64 2)).set 1 (.string (str x))).set 2 (.int .i64 (-1 + (c : Int)))).drew
          have hB := ((((hb2.setCell (p := ⟨w.heap.size + 1, 2, none⟩) (Nat.le_succ _) (.int .i64 (-1 + (c : Int)))).setCell (p := ⟨w.heap.size, 0, none⟩) (Nat.le_refl _) (.int .i64 2)).setCell (p := ⟨w.heap.size, 1, none⟩) (Nat.le_refl _) (.string (str x))).setCell (p := ⟨w.heap.size, 2, none⟩) (Nat.le_refl _) (.int .i64 (-1 + (c : Int)))).drew
          clear c0 c1 c2 d0 d1 d2 f0 f1 f2 g0 g1 g2 o0 o1 hb2
          have r0 := hP.cell 0 rfl
          have r1 := hP.cell 1 rfl
          have r2 := hP.cell 2 rfl
          exact bodyPost_ret (v := .tuple #[.agg #[.int .i64 2, .string (str x), .int .i64 (-1 + (c : Int))], .bool true]) (by simp [results, Tryz.results76, go_sem, r0, r1, r2]) rfl ⟨rfl, hB⟩
        · rw [decide_eq_false h2]
          have h4 : -1 + (c : Int) ≤ 0 := by omega
          obtain ⟨o0, o1, hb2⟩ := two_objs w 102 2 x (-1)
          have hT2 := hT.below hb2
          go_enter Tryz.func76, Tryz.ntmps76
          go_wp2_with (first
            | (go_at_call 113; (with_reducible refine (HC _ hT2).mono ?_); rintro e w1 ⟨⟨a, q, rfl⟩, hx⟩; have o0 := o0.below hx o0.lt; have o1 := o1.below hx o1.lt; have hb2 := hb2.trans (hx.mono hb2.size); clear hx
               have c0 := o0.cell 0 rfl; have c1 := o0.cell 1 rfl; have c2 := o0.cell 2 rfl; have d0 := o1.cell 0 rfl; have d1 := o1.cell 1 rfl; have d2 := o1.cell 2 rfl
               have f0 := o0.free 0; have f1 := o0.free 1; have f2 := o0.free 2; have g0 := o1.free 0; have g1 := o1.free 1; have g2 := o1.free 2)
            | (go_at_call 71; (with_reducible refine (HS _).mono ?_); rintro e w1 ⟨rfl, rfl⟩)
            | (go_at_call 71; (with_reducible refine (HB _).mono ?_); rintro e w1 ⟨rfl, rfl⟩))
          go_region
          go_wp2
          have hP := ((((o0.other (p := ⟨w.heap.size + 1, 2, none⟩) (Nat.succ_ne_self _) (.int .i64 (-1 + (c : Int)))).set 0 (.int .i64 2)).set 1 (.string (str x))).set 2 (.int .i64 (-1 + (c : Int)))).drew
          have hB := ((((hb2.setCell (p := ⟨w.heap.size + 1, 2, none⟩) (Nat.le_succ _) (.int .i64 (-1 + (c : Int)))).setCell (p := ⟨w.heap.size, 0, none⟩) (Nat.le_refl _) (.int .i64 2)).setCell (p := ⟨w.heap.size, 1, none⟩) (Nat.le_refl _) (.string (str x))).setCell (p := ⟨w.heap.size, 2, none⟩) (Nat.le_refl _) (.int .i64 (-1 + (c : Int)))).drew
          clear c0 c1 c2 d0 d1 d2 f0 f1 f2 g0 g1 g2 o0 o1 hb2
          have r0 := hP.cell 0 rfl
          have r1 := hP.cell 1 rfl
          have r2 := hP.cell 2 rfl
          exact bodyPost_ret (v := .tuple #[.agg #[.int .i64 2, .string (str x), .int .i64 (-1 + (c : Int))], .bool false]) (by simp [results, Tryz.results76, go_sem, r0, r1, r2, h4]) rfl ⟨rfl, hB⟩
      · rw [decide_eq_false h0, Bool.false_and]
        have k1 : ¬ (0 : Int) < (c : Int) := by omega
        obtain ⟨o0, o1, hb2⟩ := two_objs w 102 2 x (-1)
        have hT2 := hT.below hb2
        go_enter Tryz.func76, Tryz.ntmps76
        go_wp2_with (first
          | (go_at_call 113; (with_reducible refine (HC _ hT2).mono ?_); rintro e w1 ⟨⟨a, q, rfl⟩, hx⟩; have o0 := o0.below hx o0.lt; have o1 := o1.below hx o1.lt; have hb2 := hb2.trans (hx.mono hb2.size); clear hx
             have c0 := o0.cell 0 rfl; have c1 := o0.cell 1 rfl; have c2 := o0.cell 2 rfl; have d0 := o1.cell 0 rfl; have d1 := o1.cell 1 rfl; have d2 := o1.cell 2 rfl
             have f0 := o0.free 0; have f1 := o0.free 1; have f2 := o0.free 2; have g0 := o1.free 0; have g1 := o1.free 1; have g2 := o1.free 2)
          | (go_at_call 71; (with_reducible refine (HS _).mono ?_); rintro e w1 ⟨rfl, rfl⟩)
          | (go_at_call 71; (with_reducible refine (HB _).mono ?_); rintro e w1 ⟨rfl, rfl⟩))
        go_region
        go_wp2
        have hP := ((((o0.other (p := ⟨w.heap.size + 1, 2, none⟩) (Nat.succ_ne_self _) (.int .i64 (-1 + (c : Int)))).set 0 (.int .i64 2)).set 1 (.string (str x))).set 2 (.int .i64 (-1 + (c : Int)))).drew
        have hB := ((((hb2.setCell (p := ⟨w.heap.size + 1, 2, none⟩) (Nat.le_succ _) (.int .i64 (-1 + (c : Int)))).setCell (p := ⟨w.heap.size, 0, none⟩) (Nat.le_refl _) (.int .i64 2)).setCell (p := ⟨w.heap.size, 1, none⟩) (Nat.le_refl _) (.string (str x))).setCell (p := ⟨w.heap.size, 2, none⟩) (Nat.le_refl _) (.int .i64 (-1 + (c : Int)))).drew
        clear c0 c1 c2 d0 d1 d2 f0 f1 f2 g0 g1 g2 o0 o1 hb2
        have r0 := hP.cell 0 rfl
        have r1 := hP.cell 1 rfl
        have r2 := hP.cell 2 rfl
        exact bodyPost_ret (v := .tuple #[.agg #[.int .i64 2, .string (str x), .int .i64 (-1 + (c : Int))], .bool false]) (by simp [results, Tryz.results76, go_sem, r0, r1, r2]) rfl ⟨rfl, hB⟩
    · rw [if_neg c2] at hG2 hok
      rw [if_neg c2, Bool.eq_false_iff.2 c2] at HB
      have HC := fun w (h : PTab Tryz.prog w) => countC (l) (l).length w rfl (by unfold maxLen; omega) h
      have hc := count_le (l)
      rw [hl] at hc
      rw [hG2]
      clear hG2 hok c1 c2
      generalize countN (l) = c at *
      have hx0 := hl; clear hl hx0; generalize l = x at *
      dsimp only
      by_cases h0 : 0 < c
      · have k1 : (0 : Int) < (c : Int) := by omega
        rw [decide_eq_true h0, decide_eq_true k1, Bool.true_and]
        obtain ⟨o0, o1, hb2⟩ := two_objs w 102 0 x 0
        have hT2 := hT.below hb2
        go_enter Tryz.func76, Tryz.ntmps76
        go_wp2_with (first
          | (go_at_call 113; (with_reducible refine (HC _ hT2).mono ?_); rintro e w1 ⟨⟨a, q, rfl⟩, hx⟩; have o0 := o0.below hx o0.lt; have o1 := o1.below hx o1.lt; have hb2 := hb2.trans (hx.mono hb2.size); clear hx
             have c0 := o0.cell 0 rfl; have c1 := o0.cell 1 rfl; have c2 := o0.cell 2 rfl; have d0 := o1.cell 0 rfl; have d1 := o1.cell 1 rfl; have d2 := o1.cell 2 rfl
             have f0 := o0.free 0; have f1 := o0.free 1; have f2 := o0.free 2; have g0 := o1.free 0; have g1 := o1.free 1; have g2 := o1.free 2)
          | (go_at_call 71; (with_reducible refine (HS _).mono ?_); rintro e w1 ⟨rfl, rfl⟩)
          | (go_at_call 71; (with_reducible refine (HB _).mono ?_); rintro e w1 ⟨rfl, rfl⟩))
        go_region
        go_wp2
        have hP := ((((o0.other (p := ⟨w.heap.size + 1, 2, none⟩) (Nat.succ_ne_self _) (.int .i64 ((c : Int)))).set 0 (.int .i64 0)).set 1 (.string (str x))).set 2 (.int .i64 ((c : Int)))).drew
        have hB := ((((hb2.setCell (p := ⟨w.heap.size + 1, 2, none⟩) (Nat.le_succ _) (.int .i64 ((c : Int)))).setCell (p := ⟨w.heap.size, 0, none⟩) (Nat.le_refl _) (.int .i64 0)).setCell (p := ⟨w.heap.size, 1, none⟩) (Nat.le_refl _) (.string (str x))).setCell (p := ⟨w.heap.size, 2, none⟩) (Nat.le_refl _) (.int .i64 ((c : Int)))).drew
        clear c0 c1 c2 d0 d1 d2 f0 f1 f2 g0 g1 g2 o0 o1 hb2
        have r0 := hP.cell 0 rfl
        have r1 := hP.cell 1 rfl
        have r2 := hP.cell 2 rfl
        exact bodyPost_ret (v := .tuple #[.agg #[.int .i64 0, .string (str x), .int .i64 ((c : Int))], .bool true]) (by simp [results, Tryz.results76, go_sem, r0, r1, r2]) rfl ⟨rfl, hB⟩
      · rw [decide_eq_false h0, Bool.false_and]
        have k1 : ¬ (0 : Int) < (c : Int) := by omega
        obtain ⟨o0, o1, hb2⟩ := two_objs w 102 0 x 0
        have hT2 := hT.below hb2
        go_enter Tryz.func76, Tryz.ntmps76
        go_wp2_with (first
          | (go_at_call 113; (with_reducible refine (HC _ hT2).mono ?_); rintro e w1 ⟨⟨a, q, rfl⟩, hx⟩; have o0 := o0.below hx o0.lt; have o1 := o1.below hx o1.lt; have hb2 := hb2.trans (hx.mono hb2.size); clear hx
             have c0 := o0.cell 0 rfl; have c1 := o0.cell 1 rfl; have c2 := o0.cell 2 rfl; have d0 := o1.cell 0 rfl; have d1 := o1.cell 1 rfl; have d2 := o1.cell 2 rfl
             have f0 := o0.free 0; have f1 := o0.free 1; have f2 := o0.free 2; have g0 := o1.free 0; have g1 := o1.free 1; have g2 := o1.free 2)
          | (go_at_call 71; (with_reducible refine (HS _).mono ?_); rintro e w1 ⟨rfl, rfl⟩)
          | (go_at_call 71; (with_reducible refine (HB _).mono ?_); rintro e w1 ⟨rfl, rfl⟩))
        go_region
        go_wp2
        have hP := ((((o0.other (p := ⟨w.heap.size + 1, 2, none⟩) (Nat.succ_ne_self _) (.int .i64 ((c : Int)))).set 0 (.int .i64 0)).set 1 (.string (str x))).set 2 (.int .i64 ((c : Int)))).drew
        have hB := ((((hb2.setCell (p := ⟨w.heap.size + 1, 2, none⟩) (Nat.le_succ _) (.int .i64 ((c : Int)))).setCell (p := ⟨w.heap.size, 0, none⟩) (Nat.le_refl _) (.int .i64 0)).setCell (p := ⟨w.heap.size, 1, none⟩) (Nat.le_refl _) (.string (str x))).setCell (p := ⟨w.heap.size, 2, none⟩) (Nat.le_refl _) (.int .i64 ((c : Int)))).drew
        clear c0 c1 c2 d0 d1 d2 f0 f1 f2 g0 g1 g2 o0 o1 hb2
        have r0 := hP.cell 0 rfl
        have r1 := hP.cell 1 rfl
        have r2 := hP.cell 2 rfl
        exact bodyPost_ret (v := .tuple #[.agg #[.int .i64 0, .string (str x), .int .i64 ((c : Int))], .bool false]) (by simp [results, Tryz.results76, go_sem, r0, r1, r2]) rfl ⟨rfl, hB⟩
end Go.Proofs.YthefieemngmnjaaGreatDoor
