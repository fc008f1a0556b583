/- Contracts of layer 12: Find. -/
import Derived.Test.YtlmcfflpgkapgaaHeadBack
import Derived.Test.YtlmcfflpgkapgaaObj
namespace Go.Proofs.Ytlmcfflpgkapgaa
open Go.RowKit Go.Shelf
set_option linter.unusedVariables false
attribute [local go_sem] Oper.semAt_some

theorem boxed_below {W W' : World} {B K : Nat} {t : TypeId} {v : Value} (h : Boxed W B t v) (hb : Below K W W') (hlt : B < K) : Boxed W' B t v := (hb.block B hlt).trans h

theorem keeps_below {W W' : World} (h : Below W.heap.size W W') (B : Nat) : KeepsFrom B W W' :=
  ⟨h.size, fun i o _ hi _ => (h.block i (Array.getElem?_eq_some_iff.1 hi).1).trans hi⟩

theorem below_undrew {W W' : World} (h : Below W.drew.heap.size W.drew W') : Below W.heap.size W W' := ⟨h.os, h.tape, h.output, h.size, h.block⟩

theorem find_none_all {L : List (List UInt8 × List UInt8)} {name : List UInt8} (h : ∀ x ∈ L, (x.1.map low == name.map low) = false) : ∀ a, L.foldl (fun a x => if (x.1.map low == name.map low) = true then (x.2, true) else a) a = a := by
  induction L with
  | nil => intro a; rfl
  | cons x r ih =>
    intro a
    rw [List.foldl_cons, if_neg (by rw [h x List.mem_cons_self]; decide)]
    exact ih (fun y hy => h y (List.mem_cons_of_mem _ hy)) a

/-- The first one from behind is the last one. -/
theorem find_back {L : List (List UInt8 × List UInt8)} {name : List UInt8} {pre : List (List UInt8 × List UInt8)} {x : List UInt8 × List UInt8} {k : Nat} (h : pre ++ [x] = L.reverse.take k) (hn : ∀ y ∈ pre, (y.1.map low == name.map low) = false) (hx : (x.1.map low == name.map low) = true) : findH L name = (x.2, true) := by
  have e : L = (L.reverse.drop k).reverse ++ x :: pre.reverse := by
    have h1 := congrArg List.reverse (List.take_append_drop k L.reverse)
    rw [← h, List.reverse_reverse] at h1
    simpa using h1.symm
  rw [e]
  unfold findH
  rw [List.foldl_append, List.foldl_cons, if_pos hx]
  exact find_none_all (fun y hy => hn y (List.mem_reverse.1 hy)) _

theorem find_nothing {L : List (List UInt8 × List UInt8)} {name : List UInt8} (hn : ∀ y ∈ L.reverse, (y.1.map low == name.map low) = false) : findH L name = ([], false) :=
  find_none_all (fun y hy => hn y (List.mem_reverse.2 hy)) _

set_option maxRecDepth 100000 in
set_option maxHeartbeats 4000000 in
theorem headFindC (a : Option Addr) (n c m : Nat) (L : List (List UInt8 × List UInt8)) (name : List UInt8) (w : World) (hL : RowOf encP 2 w a n c L) (hS : ∀ x ∈ L, x.1.length ≤ 100000) (hm : name.length = m) (hm2 : m ≤ 100000) :
    Calls Try.prog 13 #[.slice a n c, .string (str name)] w fun e w' => e = .returned (.tuple #[.string (str (findH L name).1), .bool (findH L name).2]) ∧ Below w.heap.size w w' := by
  have HW := fun w => lowerC name m w hm (by unfold maxLen; omega)
  unfold GivesStr at HW
  have hS' : Hid (∀ x ∈ L, x.1.length ≤ 100000) := hS
  have hL' := Lib.hid hL
  have hk := str_toList
  have hnil : str [] = ⟨#[]⟩ := rfl
  have hz1 := hL.capm
  have hz2 := hL.cle
  unfold maxLen at hz1
  clear hL hS hm
  have bV := (Boxed.new w 9 (.string ⟨#[]⟩)).alloc (.cells #[.bool false] 4)
  have bT := Boxed.new (w.alloc (.cells #[.string ⟨#[]⟩] 9)) 4 (.bool false)
  have hb0 : Below w.heap.size w ((w.alloc (.cells #[.string ⟨#[]⟩] 9)).alloc (.cells #[.bool false] 4)) := ((Below.refl _ w).alloc (Nat.le_refl _) _).alloc (by simp) _
  rw [World.size_alloc] at bT
  generalize hv : (w.alloc (.cells #[.string ⟨#[]⟩] 9)).alloc (.cells #[.bool false] 4) = v at *
  have lT := bT.lt
  refine (callsIn_wide (n := 9)).1 ?_
  refine callsIn_of_wp_marks Try.func13 rfl trivial ?_ rfl
  simp only [Try.ntmps13, List.size_toArray, List.length_cons, List.length_nil, Nat.reduceAdd, Nat.reduceSub, Array.replicate_succ, Array.replicate_zero, List.push_toArray, List.append_toArray, List.nil_append, List.cons_append]
  gi_wp2_with (first
    | (refine ⟨trivial, ?_⟩; gi_at_call 26; refine (callsIn_wide.2 (HW _)).mono ?_; rintro e w1 ⟨rfl, hx⟩; have bV := boxed_below bV hx bV.lt; have bT := boxed_below bT hx bT.lt; have hb1 := hb0.trans (hx.mono hb0.size); have lw1 := Nat.le_trans lT hx.size; clear hx)
    | (refine ⟨trivial, ?_⟩; gi_at_call 27; refine (backward_make Fence.wide _ trivial rfl _ _ _ _).mono ?_; rintro e w2 ⟨rfl, rfl⟩))
  have bS := (Boxed.new w1 9 (.string (str (name.map low)))).alloc (.cells #[.slice a n c] 25)
  have bL := Boxed.new (w1.alloc (.cells #[.string (str (name.map low))] 9)) 25 (.slice a n c)
  rw [World.size_alloc] at bL
  have bV := (bV.alloc (.cells #[.string (str (name.map low))] 9)).alloc (.cells #[.slice a n c] 25)
  have bT := (bT.alloc (.cells #[.string (str (name.map low))] 9)).alloc (.cells #[.slice a n c] 25)
  have hB0 := (hb1.alloc hb1.size (.cells #[.string (str (name.map low))] 9)).alloc (by have := hb1.size; simp; omega) (.cells #[.slice a n c] 25)
  have hsz : ((w1.alloc (.cells #[.string (str (name.map low))] 9)).alloc (.cells #[.slice a n c] 25)).heap.size = w1.heap.size + 2 := by simp
  obtain ⟨W0, hW0⟩ : ∃ W0, (w1.alloc (.cells #[.string (str (name.map low))] 9)).alloc (.cells #[.slice a n c] 25) = W0 := ⟨_, rfl⟩
  rw [hW0] at bS bL bV bT hB0 hsz ⊢
  clear hW0 hb1
  have hws := hB0.size
  have hF1 := Lib.hid (fun (pre : List (List UInt8 × List UInt8)) x k => find_back (L := L) (name := name) (pre := pre) (x := x) (k := k))
  have hF2 := Lib.hid (find_nothing (L := L) (name := name))
  generalize name.map low = sm at *
  refine wpIn_rangeFunc_ownH rfl (by omega) (gf := 38) (lb := #[.pointer (some ⟨w1.heap.size + 1, 0, none⟩)]) rfl trivial (enters_of Try.func38 (by kernel_rfl) rfl)
    (backward_stops Fence.wide _ trivial rfl (by omega) (w1.heap.size + 1) a n c L W0 (by omega) bL.cell (hL'.out.below hB0) hS'.out) belowK_t (belowK_b (Nat.le_refl _)) (Below.refl _ _) (fun _ => rfl)
    (fun pre W => (∀ p ∈ pre.map pairX, (p.1.map low == sm) = false) ∧ Below W0.heap.size W0 W)
    (fun c pre W => (c = .ret ∧ ∃ ini last, pre = ini ++ [last] ∧ (∀ p ∈ ini.map pairX, (p.1.map low == sm) = false) ∧ ((pairX last).1.map low == sm) = true ∧ Boxed W w.heap.size 9 (.string (str (pairX last).2)) ∧ Boxed W (w.heap.size + 1) 4 (.bool true)) ∧ Below w.heap.size w W)
    (OwnFrom.and (ownFrom_pure _ _) (ownFrom_below (Nat.le_refl _) (Nat.le_refl _)))
    (fun c => OwnFrom.and (Own.from (fun s A B row hs hg hr => by
      obtain ⟨hc, ini, last, e1, e2, e3, e4, e5⟩ := hs
      exact ⟨hc, ini, last, e1, e2, e3, boxed_own w.heap.size 9 (fun (_ : Unit) => Value.string (str (pairX last).2)) () A B row e4 hg hr, boxed_own (w.heap.size + 1) 4 (fun (_ : Unit) => Value.bool true) () A B row e5 hg hr⟩) _) (ownFrom_below (Nat.le_refl _) hws))
    ⟨by simp, Below.refl _ _⟩
    (fun x a' W => ∃ Bx, W0.heap.size ≤ Bx ∧ W.heap[Bx]? = some (.cells #[.string (str x.1.2.1), .string (str x.1.2.2)] 24 (0, 0)) ∧ a' = { tmps := #[.slice a n c, .string (str name), undef, undef, .pointer (some ⟨w.heap.size, 0, none⟩), .pointer (some ⟨w.heap.size + 1, 0, none⟩), .pointer (some ⟨w1.heap.size, 0, none⟩), undef, .pointer (some ⟨Bx, 0, none⟩), .string (str name), .string (str sm), .slice a n c, .func (.func 38) #[] #[.pointer (some ⟨w1.heap.size + 1, 0, none⟩)], .int .i64 (x.1.1 : Int), .agg #[.string (str x.1.2.1), .string (str x.1.2.2)], undef, undef, undef, undef, undef, undef, undef], defers := [] })
    (fun x a' _ X Y row hs hg hr => by
      obtain ⟨Bx, h1, h2, h3⟩ := hs
      refine ⟨Bx, h1, (hg.block Bx (Array.getElem?_eq_some_iff.1 h2).1 (fun e => ?_)).trans h2, h3⟩
      obtain ⟨_, o, ho, hc⟩ := hr Bx e.symm
      rw [h2] at ho
      cases ho
      cases hc)
    ?assign ?body ?done ?stop
  case assign =>
    rintro l pre x W K ⟨hp, hB⟩ hK
    gi_wp2
    exact hK _ _ ((KeepsOthers.alloc _ _).from _) ((Below.refl _ W).alloc hB.size _) ⟨hp, hB.alloc hB.size _⟩ ⟨W.heap.size, hB.size, World.alloc_heap_new W _, rfl⟩
  case body =>
    rintro l pre x a' W hl hr ⟨hp, hB⟩ ⟨Bx, hBx, hx, rfl⟩ hlt
    obtain ⟨⟨xi, x1, x2⟩, hx1⟩ := x
    dsimp only at *
    have hX : Hid ((pairX ⟨(xi, x1, x2), hx1⟩ : List UInt8 × List UInt8) = (x1, x2)) := rfl
    have hx1' : x1.length ≤ 100000 := hx1
    have HX := fun w => lowerC x1 x1.length w rfl (by unfold maxLen; omega)
    unfold GivesStr at HX
    have cx0 : W.cell? ⟨Bx, 0, none⟩ = some (.string (str x1)) := by simp [World.cell?, hx]
    have cx1 : W.cell? ⟨Bx, 1, none⟩ = some (.string (str x2)) := by simp [World.cell?, hx]
    have bS := boxed_below bS hB bS.lt
    have bV := boxed_below bV hB bV.lt
    have bT := boxed_below bT hB bT.lt
    have cS := bS.cell
    have hmx : Try.prog.follows .mixedOrders = true := by kernel_rfl
    have hlx : Bx < W.heap.size := (Array.getElem?_eq_some_iff.1 hx).1
    have hpw := Lib.hid hp
    clear hp hx hF1 hF2
    obtain ⟨y1, hy⟩ : ∃ y, x1.map low = y := ⟨_, rfl⟩
    rw [hy] at HX
    have Hy := Lib.hid hy
    clear hy
    cases hc : y1 == sm with
    | false =>
      gi_wp2
      gi_region_with_o (refine ⟨trivial, ?_⟩; gi_at_call 26; refine (CallsIn.inRound l (callsIn_wide.2 (HX _))).mono ?_; rintro e w5 ⟨rfl, hx5⟩; have hx5 := below_undrew hx5; have cx1 := (hx5.cell (p := ⟨Bx, 1, none⟩) hlx).trans cx1; have cS := (hx5.cell (p := ⟨w1.heap.size, 0, none⟩) bS.lt).trans cS; have bV := boxed_below bV hx5 bV.lt; have bT := boxed_below bT hx5 bT.lt; have cV := bV.cell; have cT := bT.cell; have fV := bV.frozen; have fT := bT.frozen)
      all_goals gi_wp2
      all_goals exact ⟨keeps_below hx5 _, hx5.mono hB.size, ⟨fun p hp => by
        rw [List.map_append] at hp
        rcases List.mem_append.1 hp with hp | hp
        · exact hpw.out p hp
        · rw [List.map_singleton, List.mem_singleton, hX.out] at hp
          subst hp
          show (List.map low x1 == sm) = false
          rw [Hy.out]
          exact hc, hB.trans (hx5.mono hB.size)⟩⟩
    | true =>
      gi_wp2
      gi_region_with_o (refine ⟨trivial, ?_⟩; gi_at_call 26; refine (CallsIn.inRound l (callsIn_wide.2 (HX _))).mono ?_; rintro e w5 ⟨rfl, hx5⟩; have hx5 := below_undrew hx5; have cx1 := (hx5.cell (p := ⟨Bx, 1, none⟩) hlx).trans cx1; have cS := (hx5.cell (p := ⟨w1.heap.size, 0, none⟩) bS.lt).trans cS; have bV := boxed_below bV hx5 bV.lt; have bT := boxed_below bT hx5 bT.lt; have cV := bV.cell; have cT := bT.cell; have fV := bV.frozen; have fT := bT.frozen)
      all_goals gi_wp2
      all_goals exact ⟨(keeps_below hx5 _).trans (((KeepsOthers.setCell _ _ _).trans (KeepsOthers.setCell _ _ _)).from _), ⟨rfl, pre, _, rfl, hpw.out, (by show (List.map low x1 == sm) = true; rw [Hy.out]; exact hc), (bV.set (.string (str x2))).other (by omega) (.bool true), (bT.other (by omega) (.string (str x2))).set (.bool true)⟩, (((hB0.trans (hB.mono hws)).trans (hx5.mono (Nat.le_trans hws hB.size))).setCell (p := ⟨w.heap.size, 0, none⟩) (Nat.le_refl _) _).setCell (p := ⟨w.heap.size + 1, 0, none⟩) (by simp) _⟩
  case done =>
    rintro D ys W hD hys ⟨hp, hB⟩ hK
    rw [hys] at hp
    have hF := Lib.hid (hF2.out hp)
    have bV := boxed_below bV hB bV.lt
    have bT := boxed_below bT hB bT.lt
    have cV := bV.cell
    have cT := bT.cell
    have fV := bV.frozen
    have fT := bT.frozen
    clear hp hys hF1 hF2
    gi_wp2
    have b1 := (bV.set (.string ⟨#[]⟩)).other (B' := w.heap.size + 1) (by omega) (.bool false)
    have b2 := (bT.other (B' := w.heap.size) (by omega) (.string ⟨#[]⟩)).set (.bool false)
    have hK' := ((KeepsOthers.setCell W ⟨w.heap.size, 0, none⟩ (.string ⟨#[]⟩)).trans (KeepsOthers.setCell _ ⟨w.heap.size + 1, 0, none⟩ (.bool false))).same D _ hK rfl
    refine ⟨by simp, .inl ⟨_, _, rfl, run_takeDeferred hK', ?_⟩⟩
    have q1 := cell_kept b1.cell (grownBy_putObj' _ D (.deferred none)) (fun r e => by cases e; exact ⟨_, hK', rfl⟩)
    have q2 := cell_kept b2.cell (grownBy_putObj' _ D (.deferred none)) (fun r e => by cases e; exact ⟨_, hK', rfl⟩)
    refine ⟨.tuple #[.string ⟨#[]⟩, .bool false], ?_, by rw [hF.out]; rfl, (((hB0.trans (hB.mono hws)).setCell (p := ⟨w.heap.size, 0, none⟩) (Nat.le_refl _) _).setCell (p := ⟨w.heap.size + 1, 0, none⟩) (by simp) _).trans (belowK_b (w := w) (Nat.le_refl _) _ D _ _ (by omega) hK' rfl rfl)⟩
    simp [results, Try.results13, go_sem, q1, q2]
  case stop =>
    rintro D c pre W hD ⟨k, hk⟩ ⟨⟨rfl, ini, last, rfl, h2, h3, b1, b2⟩, hB⟩ hK
    have hF := Lib.hid (hF1.out (ini.map pairX) (pairX last) k (by simpa using hk) h2 h3)
    generalize (pairX last).2 = x2 at *
    clear h2 h3 hk hF1 hF2
    gi_wp2
    refine ⟨by simp, .inl ⟨_, _, rfl, run_takeDeferred hK, ?_⟩⟩
    have q1 := cell_kept b1.cell (grownBy_putObj' _ D (.deferred none)) (fun r e => by cases e; exact ⟨_, hK, rfl⟩)
    have q2 := cell_kept b2.cell (grownBy_putObj' _ D (.deferred none)) (fun r e => by cases e; exact ⟨_, hK, rfl⟩)
    refine ⟨.tuple #[.string (str x2), .bool true], ?_, by rw [hF.out], hB.trans (belowK_b (w := w) (Nat.le_refl _) _ D _ _ (by omega) hK rfl rfl)⟩
    simp [results, Try.results13, go_sem, q1, q2]
end Go.Proofs.Ytlmcfflpgkapgaa
