/- Contracts and plain words that the laws' proofs stand on. -/
import Derived.Test.YtaodjnkjjmhecaaGreatDoorEventRef2
import Derived.Test.YtaodjnkjjmhecaaGreatDoorCookieRef2
namespace Go.Proofs.YtaodjnkjjmhecaaGreatDoor
open Go.RowKit
set_option linter.unusedVariables false
def applyR (m : MapR) (r : EvR) : MapR × Bool × Int :=
  if rightE r.e = false then (m, false, 1)
  else if hasV m.ctx r.e.dot = true then (m, false, 0)
  else if ¬ getV m.ctx r.e.dot.dev r.e.dot.inc + 1 = r.e.dot.seq then (m, false, 6)
  else if 2048 ≤ m.kept.length then (m, false, 9)
  else (⟨setV m.ctx r.e.dot, insR m.kept r, sortD (m.dead ++ r.e.over)⟩, true, 0)
theorem apply_map (m : MapR) (r : EvR) : (applyR m r).1.plain = (applyM m.plain r.e).1 ∧ (applyR m r).2 = (applyM m.plain r.e).2 := by
  unfold applyR applyM
  have h2 : m.plain.kept.length = m.kept.length := List.length_map ..
  have h3 : m.plain.dead = m.dead := rfl
  have h4 : m.plain.ctx = m.ctx := rfl
  rw [h2, h3, h4]
  split
  · exact ⟨rfl, rfl⟩
  split
  · exact ⟨rfl, rfl⟩
  split
  · exact ⟨rfl, rfl⟩
  split
  · exact ⟨rfl, rfl⟩
  refine ⟨?_, rfl⟩
  unfold MapR.plain
  dsimp only
  rw [ins_map]
def GivesM3 (bc bk bd : Option Addr) (m : MapR) (b : Bool) (x : Int) (w : World) (en : Ending) (w' : World) : Prop :=
  ∃ ac nc cc ak nk ck ad nd cd, en = .returned (.tuple #[.agg #[.slice ac nc cc, .slice ak nk ck, .slice ad nd cd], .bool b, .int .i64 x]) ∧ RowM w' ac nc cc ak nk ck ad nd cd m ∧ LieIn bc bk bd w w' ac ak ad ∧ Below w.heap.size w w'
set_option maxHeartbeats 4000000 in
set_option maxRecDepth 100000 in
theorem refApplyNo (ac : Option Addr) (nc cc : Nat) (ak : Option Addr) (nk ck : Nat) (ad : Option Addr) (nd cd : Nat) (m : MapR) (r : EvR) (A : Array Value) (hA : (encE r).toArray = A) (w : World) (hM : RowM w ac nc cc ak nk ck ad nd cd m) (hOk : OkV m.ctx) (hE : RowOf encD 3 w r.a r.e.over.length r.c r.e.over) (hT : r.e.item.name.length ≤ 100000 ∧ r.e.item.dom.length ≤ 100000 ∧ r.e.item.path.length ≤ 100000 ∧ r.e.item.val.length ≤ 100000) (hno : (applyR m r).2.1 = false) :
    Calls Tryz.prog 18 #[.agg #[.slice ac nc cc, .slice ak nk ck, .slice ad nd cd], .agg A] w (GivesM3 ac ak ad (applyR m r).1 (applyR m r).2.1 (applyR m r).2.2 w) := by
  obtain ⟨o1, a1, r1, b1⟩ := objs3m w #[.slice ac nc cc, .slice ak nk ck, .slice ad nd cd] A #[.slice none 0 0, .slice none 0 0, .slice none 0 0] 31 43 31
  have hlt1 := o1.lt; have hlt2 := a1.lt; have hlt3 := r1.lt
  have zA : A.size = 19 := by rw [← hA]; rfl
  have lA : A.toList = encE r := by rw [← hA]
  generalize hw1 : ((w.alloc (.cells #[.slice ac nc cc, .slice ak nk ck, .slice ad nd cd] 31)).alloc (.cells A 43)).alloc (.cells #[.slice none 0 0, .slice none 0 0, .slice none 0 0] 31) = w1 at *
  have c1 := a1
  rw [lA] at c1
  have m0 := o1.cell 0 rfl; have m1 := o1.cell 1 rfl; have m2 := o1.cell 2 rfl; have y0 := r1.cell 0 rfl; have y1 := r1.cell 1 rfl; have y2 := r1.cell 2 rfl; have f0 := r1.free 0; have f1 := r1.free 1; have f2 := r1.free 2; have v0 := c1.cell 0 rfl; have v1 := c1.cell 1 rfl; have v2 := c1.cell 2 rfl; have v18 := c1.cell 18 rfl
  have hMw := fun v (hv : Below w.heap.size w v) => hM.below hv
  have hM1 := fun v (hv : Below w1.heap.size w1 v) => hM.below (b1.trans (hv.mono b1.size))
  have hov := fun v (hv : Below w1.heap.size w1 v) => hE.below (b1.trans (hv.mono b1.size))
  have hX1 : Below w1.heap.size w1 w1 := Below.refl _ _
  have HR : ∀ v, Below w1.heap.size w1 v → Calls Tryz.prog 62 #[.agg A] v fun en w' => en = .returned (.bool (rightE r.e)) ∧ Below v.heap.size v w' := fun v hv => by
    rw [← hA]
    exact refERightC r.e r.a r.e.over.length r.c v (hov v hv) (fun v => refRightXC _ _ _ _ _ _ _ _ _ _ _ v hT.1 hT.2.1 hT.2.2.1 hT.2.2.2)
  have HV := fun v (hv : Below w1.heap.size w1 v) => refHasVC ac nc cc m.ctx r.e.dot v (hM1 v hv).ctx
  have HG := fun v (hv : Below w1.heap.size w1 v) => refGetVC ac nc cc m.ctx r.e.dot v (hM1 v hv).ctx
  have hg := getV_range hOk r.e.dot.dev r.e.dot.inc
  have qg : IntKind.i64.wrap (getV m.ctx r.e.dot.dev r.e.dot.inc + 1) = getV m.ctx r.e.dot.dev r.e.dot.inc + 1 := by rw [IntKind.wrap_i64]; omega
  have hkl := hM.kept.leq
  unfold GivesM3
  unfold applyR at hno ⊢
  cases T1 : rightE r.e with
  | false =>
    rw [T1] at HR
    rw [if_pos rfl]
    clear T1 hno HV HG
    go_enter Tryz.func18, Tryz.ntmps18
    go_wp2_with (first | (refine wpList_loadAll rfl 43 _ rfl (w.heap.size + 1) 19 A rfl a1 Tryz.isAgg43 Tryz.sizeOf43 zA ?_) | (go_at_call 62; (with_reducible refine (HR _ hX1).mono ?_); rintro e w2 ⟨rfl, hx2⟩; have hX2 := hX1.trans (hx2.mono hX1.size); have o2 := o1.below hX2 hlt1; have a2 := a1.below hX2 hlt2; have r2 := r1.below hX2 hlt3; have c2 := a2; rw [lA] at c2; have m0 := o2.cell 0 rfl; have m1 := o2.cell 1 rfl; have m2 := o2.cell 2 rfl; have y0 := r2.cell 0 rfl; have y1 := r2.cell 1 rfl; have y2 := r2.cell 2 rfl; have f0 := r2.free 0; have f1 := r2.free 1; have f2 := r2.free 2; have v0 := c2.cell 0 rfl; have v1 := c2.cell 1 rfl; have v2 := c2.cell 2 rfl; have v18 := c2.cell 18 rfl))
    have o9 := ((r2.set 0 (.slice ac nc cc)).set 1 (.slice ak nk ck)).set 2 (.slice ad nd cd)
    have r0' := o9.cell 0 rfl; have r1' := o9.cell 1 rfl; have r2' := o9.cell 2 rfl
    have hb9 := (((b1.trans (hX2.mono b1.size)).setCell (p := ⟨w.heap.size + 1 + 1, 0, none⟩) (by show w.heap.size ≤ w.heap.size + 1 + 1; omega) (.slice ac nc cc)).setCell (p := ⟨w.heap.size + 1 + 1, 1, none⟩) (by show w.heap.size ≤ w.heap.size + 1 + 1; omega) (.slice ak nk ck)).setCell (p := ⟨w.heap.size + 1 + 1, 2, none⟩) (by show w.heap.size ≤ w.heap.size + 1 + 1; omega) (.slice ad nd cd)
    refine bodyPost_ret (v := .tuple #[.agg #[.slice ac nc cc, .slice ak nk ck, .slice ad nd cd], .bool false, .int .i64 1]) (by simp [results, Tryz.results18, go_sem, r0', r1', r2']) rfl ?_
    exact ⟨_, _, _, _, _, _, _, _, _, rfl, hMw _ hb9, LieIn.same, hb9⟩
  | true =>
    rw [T1] at HR hno
    rw [if_neg (by decide)] at hno ⊢
    cases T2 : hasV m.ctx r.e.dot with
    | true =>
      rw [T2] at HV
      rw [if_pos rfl]
      clear T1 T2 hno HG
      go_enter Tryz.func18, Tryz.ntmps18
      go_wp2_with (first | (refine wpList_loadAll rfl 43 _ rfl (w.heap.size + 1) 19 A rfl a1 Tryz.isAgg43 Tryz.sizeOf43 zA ?_) | (go_at_call 62; (with_reducible refine (HR _ hX1).mono ?_); rintro e w2 ⟨rfl, hx2⟩; have hX2 := hX1.trans (hx2.mono hX1.size); have o2 := o1.below hX2 hlt1; have a2 := a1.below hX2 hlt2; have r2 := r1.below hX2 hlt3; have c2 := a2; rw [lA] at c2; have m0 := o2.cell 0 rfl; have m1 := o2.cell 1 rfl; have m2 := o2.cell 2 rfl; have y0 := r2.cell 0 rfl; have y1 := r2.cell 1 rfl; have y2 := r2.cell 2 rfl; have f0 := r2.free 0; have f1 := r2.free 1; have f2 := r2.free 2; have v0 := c2.cell 0 rfl; have v1 := c2.cell 1 rfl; have v2 := c2.cell 2 rfl; have v18 := c2.cell 18 rfl) | (go_at_call 37; (with_reducible refine (HV _ hX2).mono ?_); rintro e w3 ⟨rfl, hx3⟩; have hX3 := hX2.trans (hx3.mono hX2.size); have o3 := o1.below hX3 hlt1; have a3 := a1.below hX3 hlt2; have r3 := r1.below hX3 hlt3; have c3 := a3; rw [lA] at c3; have m0 := o3.cell 0 rfl; have m1 := o3.cell 1 rfl; have m2 := o3.cell 2 rfl; have y0 := r3.cell 0 rfl; have y1 := r3.cell 1 rfl; have y2 := r3.cell 2 rfl; have f0 := r3.free 0; have f1 := r3.free 1; have f2 := r3.free 2; have v0 := c3.cell 0 rfl; have v1 := c3.cell 1 rfl; have v2 := c3.cell 2 rfl; have v18 := c3.cell 18 rfl))
      have o9 := ((r3.set 0 (.slice ac nc cc)).set 1 (.slice ak nk ck)).set 2 (.slice ad nd cd)
      have r0' := o9.cell 0 rfl; have r1' := o9.cell 1 rfl; have r2' := o9.cell 2 rfl
      have hb9 := (((b1.trans (hX3.mono b1.size)).setCell (p := ⟨w.heap.size + 1 + 1, 0, none⟩) (by show w.heap.size ≤ w.heap.size + 1 + 1; omega) (.slice ac nc cc)).setCell (p := ⟨w.heap.size + 1 + 1, 1, none⟩) (by show w.heap.size ≤ w.heap.size + 1 + 1; omega) (.slice ak nk ck)).setCell (p := ⟨w.heap.size + 1 + 1, 2, none⟩) (by show w.heap.size ≤ w.heap.size + 1 + 1; omega) (.slice ad nd cd)
      refine bodyPost_ret (v := .tuple #[.agg #[.slice ac nc cc, .slice ak nk ck, .slice ad nd cd], .bool false, .int .i64 0]) (by simp [results, Tryz.results18, go_sem, r0', r1', r2']) rfl ?_
      exact ⟨_, _, _, _, _, _, _, _, _, rfl, hMw _ hb9, LieIn.same, hb9⟩
    | false =>
      rw [T2] at HV hno
      rw [if_neg Bool.false_ne_true] at hno ⊢
      by_cases hs : getV m.ctx r.e.dot.dev r.e.dot.inc + 1 = r.e.dot.seq
      · rw [if_neg (fun c => c hs)] at hno ⊢
        by_cases hf : 2048 ≤ m.kept.length
        · rw [if_pos hf]
          have t3 : ((getV m.ctx r.e.dot.dev r.e.dot.inc + 1) != r.e.dot.seq) = false := by simp [hs]
          have t4 : decide ((2048 : Int) ≤ (nk : Int)) = true := decide_eq_true (by omega)
          clear T1 T2 hno hs
          generalize getV m.ctx r.e.dot.dev r.e.dot.inc = G at *
          go_enter Tryz.func18, Tryz.ntmps18
          go_upto_region 5 with (first | (refine wpList_loadAll rfl 43 _ rfl (w.heap.size + 1) 19 A rfl a1 Tryz.isAgg43 Tryz.sizeOf43 zA ?_) | (go_at_call 62; (with_reducible refine (HR _ hX1).mono ?_); rintro e w2 ⟨rfl, hx2⟩; have hX2 := hX1.trans (hx2.mono hX1.size); have o2 := o1.below hX2 hlt1; have a2 := a1.below hX2 hlt2; have r2 := r1.below hX2 hlt3; have c2 := a2; rw [lA] at c2; have m0 := o2.cell 0 rfl; have m1 := o2.cell 1 rfl; have m2 := o2.cell 2 rfl; have y0 := r2.cell 0 rfl; have y1 := r2.cell 1 rfl; have y2 := r2.cell 2 rfl; have f0 := r2.free 0; have f1 := r2.free 1; have f2 := r2.free 2; have v0 := c2.cell 0 rfl; have v1 := c2.cell 1 rfl; have v2 := c2.cell 2 rfl; have v18 := c2.cell 18 rfl) | (go_at_call 37; (with_reducible refine (HV _ hX2).mono ?_); rintro e w3 ⟨rfl, hx3⟩; have hX3 := hX2.trans (hx3.mono hX2.size); have o3 := o1.below hX3 hlt1; have a3 := a1.below hX3 hlt2; have r3 := r1.below hX3 hlt3; have c3 := a3; rw [lA] at c3; have m0 := o3.cell 0 rfl; have m1 := o3.cell 1 rfl; have m2 := o3.cell 2 rfl; have y0 := r3.cell 0 rfl; have y1 := r3.cell 1 rfl; have y2 := r3.cell 2 rfl; have f0 := r3.free 0; have f1 := r3.free 1; have f2 := r3.free 2; have v0 := c3.cell 0 rfl; have v1 := c3.cell 1 rfl; have v2 := c3.cell 2 rfl; have v18 := c3.cell 18 rfl))
          have hdr : Below w3.heap.size w3 w3.drew := (Below.refl _ w3).drew
          have hX4 := hX3.trans (hdr.mono hX3.size)
          have HG4 := HG _ hX4
          go_wp2_with fail
          go_region_law ((try go_simp); go_at_call 63; (refine HG4.mono ?_); rintro e w5 ⟨rfl, hx5⟩; have hX5 := hX4.trans (hx5.mono hX4.size); have o5 := o1.below hX5 hlt1; have a5 := a1.below hX5 hlt2; have r5 := r1.below hX5 hlt3; have c5 := a5; rw [lA] at c5; have m0 := o5.cell 0 rfl; have m1 := o5.cell 1 rfl; have m2 := o5.cell 2 rfl; have y0 := r5.cell 0 rfl; have y1 := r5.cell 1 rfl; have y2 := r5.cell 2 rfl; have f0 := r5.free 0; have f1 := r5.free 1; have f2 := r5.free 2; have v0 := c5.cell 0 rfl; have v1 := c5.cell 1 rfl; have v2 := c5.cell 2 rfl; have v18 := c5.cell 18 rfl)
          all_goals (
            go_wp2
            have o9 := ((r5.set 0 (.slice ac nc cc)).set 1 (.slice ak nk ck)).set 2 (.slice ad nd cd)
            have r0' := o9.cell 0 rfl; have r1' := o9.cell 1 rfl; have r2' := o9.cell 2 rfl
            have hb9 := (((b1.trans (hX5.mono b1.size)).setCell (p := ⟨w.heap.size + 1 + 1, 0, none⟩) (by show w.heap.size ≤ w.heap.size + 1 + 1; omega) (.slice ac nc cc)).setCell (p := ⟨w.heap.size + 1 + 1, 1, none⟩) (by show w.heap.size ≤ w.heap.size + 1 + 1; omega) (.slice ak nk ck)).setCell (p := ⟨w.heap.size + 1 + 1, 2, none⟩) (by show w.heap.size ≤ w.heap.size + 1 + 1; omega) (.slice ad nd cd)
            refine bodyPost_ret (v := .tuple #[.agg #[.slice ac nc cc, .slice ak nk ck, .slice ad nd cd], .bool false, .int .i64 9]) (by simp [results, Tryz.results18, go_sem, r0', r1', r2']) rfl ?_
            exact ⟨_, _, _, _, _, _, _, _, _, rfl, hMw _ hb9, LieIn.same, hb9⟩)
        · rw [if_neg hf] at hno
          cases hno
      · rw [if_pos hs]
        have t3 : ((getV m.ctx r.e.dot.dev r.e.dot.inc + 1) != r.e.dot.seq) = true := by simp [hs]
        clear T1 T2 hno hs
        generalize getV m.ctx r.e.dot.dev r.e.dot.inc = G at *
        go_enter Tryz.func18, Tryz.ntmps18
        go_upto_region 5 with (first | (refine wpList_loadAll rfl 43 _ rfl (w.heap.size + 1) 19 A rfl a1 Tryz.isAgg43 Tryz.sizeOf43 zA ?_) | (go_at_call 62; (with_reducible refine (HR _ hX1).mono ?_); rintro e w2 ⟨rfl, hx2⟩; have hX2 := hX1.trans (hx2.mono hX1.size); have o2 := o1.below hX2 hlt1; have a2 := a1.below hX2 hlt2; have r2 := r1.below hX2 hlt3; have c2 := a2; rw [lA] at c2; have m0 := o2.cell 0 rfl; have m1 := o2.cell 1 rfl; have m2 := o2.cell 2 rfl; have y0 := r2.cell 0 rfl; have y1 := r2.cell 1 rfl; have y2 := r2.cell 2 rfl; have f0 := r2.free 0; have f1 := r2.free 1; have f2 := r2.free 2; have v0 := c2.cell 0 rfl; have v1 := c2.cell 1 rfl; have v2 := c2.cell 2 rfl; have v18 := c2.cell 18 rfl) | (go_at_call 37; (with_reducible refine (HV _ hX2).mono ?_); rintro e w3 ⟨rfl, hx3⟩; have hX3 := hX2.trans (hx3.mono hX2.size); have o3 := o1.below hX3 hlt1; have a3 := a1.below hX3 hlt2; have r3 := r1.below hX3 hlt3; have c3 := a3; rw [lA] at c3; have m0 := o3.cell 0 rfl; have m1 := o3.cell 1 rfl; have m2 := o3.cell 2 rfl; have y0 := r3.cell 0 rfl; have y1 := r3.cell 1 rfl; have y2 := r3.cell 2 rfl; have f0 := r3.free 0; have f1 := r3.free 1; have f2 := r3.free 2; have v0 := c3.cell 0 rfl; have v1 := c3.cell 1 rfl; have v2 := c3.cell 2 rfl; have v18 := c3.cell 18 rfl))
        have hdr : Below w3.heap.size w3 w3.drew := (Below.refl _ w3).drew
        have hX4 := hX3.trans (hdr.mono hX3.size)
        have HG4 := HG _ hX4
        go_wp2_with fail
        go_region_law ((try go_simp); go_at_call 63; (refine HG4.mono ?_); rintro e w5 ⟨rfl, hx5⟩; have hX5 := hX4.trans (hx5.mono hX4.size); have o5 := o1.below hX5 hlt1; have a5 := a1.below hX5 hlt2; have r5 := r1.below hX5 hlt3; have c5 := a5; rw [lA] at c5; have m0 := o5.cell 0 rfl; have m1 := o5.cell 1 rfl; have m2 := o5.cell 2 rfl; have y0 := r5.cell 0 rfl; have y1 := r5.cell 1 rfl; have y2 := r5.cell 2 rfl; have f0 := r5.free 0; have f1 := r5.free 1; have f2 := r5.free 2; have v0 := c5.cell 0 rfl; have v1 := c5.cell 1 rfl; have v2 := c5.cell 2 rfl; have v18 := c5.cell 18 rfl)
        all_goals (
          go_wp2
          have o9 := ((r5.set 0 (.slice ac nc cc)).set 1 (.slice ak nk ck)).set 2 (.slice ad nd cd)
          have r0' := o9.cell 0 rfl; have r1' := o9.cell 1 rfl; have r2' := o9.cell 2 rfl
          have hb9 := (((b1.trans (hX5.mono b1.size)).setCell (p := ⟨w.heap.size + 1 + 1, 0, none⟩) (by show w.heap.size ≤ w.heap.size + 1 + 1; omega) (.slice ac nc cc)).setCell (p := ⟨w.heap.size + 1 + 1, 1, none⟩) (by show w.heap.size ≤ w.heap.size + 1 + 1; omega) (.slice ak nk ck)).setCell (p := ⟨w.heap.size + 1 + 1, 2, none⟩) (by show w.heap.size ≤ w.heap.size + 1 + 1; omega) (.slice ad nd cd)
          refine bodyPost_ret (v := .tuple #[.agg #[.slice ac nc cc, .slice ak nk ck, .slice ad nd cd], .bool false, .int .i64 6]) (by simp [results, Tryz.results18, go_sem, r0', r1', r2']) rfl ?_
          exact ⟨_, _, _, _, _, _, _, _, _, rfl, hMw _ hb9, LieIn.same, hb9⟩)
end Go.Proofs.YtaodjnkjjmhecaaGreatDoor
