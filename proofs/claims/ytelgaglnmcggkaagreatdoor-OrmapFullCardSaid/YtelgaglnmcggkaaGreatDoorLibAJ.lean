/- Contracts and plain words that the laws' proofs stand on, put together. -/
import Derived.Test.YtelgaglnmcggkaaGreatDoorDotRef2
import Derived.Test.YtelgaglnmcggkaaGreatDoorLibAH
import Derived.Test.YtelgaglnmcggkaaGreatDoorLibAE
import Derived.Test.YtelgaglnmcggkaaGreatDoorLibAA
import Derived.DeepKeys4
import Derived.Maps.OwnOps
import Derived.Maps.OwnSet
import Derived.Test.YtelgaglnmcggkaaGreatDoorLibAF
import Derived.Deep.RegionHeld3
import Derived.Maps.Views
import Derived.Test.YtelgaglnmcggkaaGreatDoorShelf
import Derived.Shelf.SlSortCmp.WholeK
import Derived.Shelf.SlSortCmp.NoneTotal
/- Contracts of the reference of layer 16: a dot, packed. -/
namespace Go.Proofs.YtelgaglnmcggkaaGreatDoor
open Go.RowKit
set_option linter.unusedVariables false

end Go.Proofs.YtelgaglnmcggkaaGreatDoor

/- How dots as arguments are opened. -/
namespace Go.Proofs.YtelgaglnmcggkaaGreatDoor
open Go.ChangeShapes Go.WideShapes Go.ChangeAt Go.RowKit
set_option linter.unusedVariables false

instance : Inhabited DotN := ⟨⟨0, 0, 0⟩⟩

end Go.Proofs.YtelgaglnmcggkaaGreatDoor

/- Dots as keys of maps; maps of the call's own whose elements are numbers. -/
namespace Go.Proofs.YtelgaglnmcggkaaGreatDoor
open Go.RowKit Go.WideMaps
set_option linter.unusedVariables false

theorem laidOutK : laidOutB Tryz.prog = true := by kernel_rfl
theorem lawDot : KeyLaw Tryz.prog 35 := deep_law_laid laidOutK (m := 4) (by omega) (of_decide_eq_true (by kernel_rfl)) (by kernel_rfl) (by kernel_rfl)
theorem keyedDot : Go.Maps.Keyed Tryz.prog 35 := Go.Maps.Keyed.of_law lawDot

/-- What a dot reads as, as a key. -/
def keyD (x : DotN) : Lit := .string (keyBytes [.int .i64 x.dev, .int .i64 x.inc, .int .i64 x.seq])
theorem fit_wf {n : Int} (h : is64 n) : (Lit.int .i64 n).wf = true := by
  have h2 : IntKind.i64.min ≤ n ∧ n ≤ IntKind.i64.max := h
  simp only [Lit.wf, Bool.and_eq_true, decide_eq_true_eq]
  exact h2

set_option maxRecDepth 100000 in
theorem key_dot {x : DotN} (hx : FitD x) : keyOf Tryz.prog 35 (.agg #[.int .i64 x.dev, .int .i64 x.inc, .int .i64 x.seq]) = some (keyD x) := by
  have w1 := fit_wf hx.dev
  have w2 := fit_wf hx.inc
  have w3 := fit_wf hx.seq
  have hk : Tryz.prog.keyType 35 = true := by kernel_rfl
  obtain ⟨m, hm⟩ : ∃ m, Tryz.prog.types.size = m + 2 := ⟨Tryz.prog.types.size - 2, by kernel_rfl⟩
  have hc : Tryz.prog.cellsOf 35 = 3 := by kernel_rfl
  have hc2 : Tryz.prog.cellsOf 33 = 2 := by kernel_rfl
  have hc3 : Tryz.prog.cellsOf 3 = 1 := by kernel_rfl
  have hf : (Value.agg #[.int .i64 x.dev, .int .i64 x.inc, .int .i64 x.seq]).formed Tryz.prog 35 = true := by simp [Value.formed, Tryz.underlying35, hc]
  have hl : Tryz.prog.keyLits (Tryz.prog.types.size + 1) 35 [.int .i64 x.dev, .int .i64 x.inc, .int .i64 x.seq] = some [.int .i64 x.dev, .int .i64 x.inc, .int .i64 x.seq] := by
    rw [hm]
    simp [Program.keyLits, Tryz.underlying35, Tryz.underlying33, Tryz.underlying3, hc, hc2, hc3, w1, w2, w3]
    rw [if_pos (by decide)]
    rfl
  unfold keyOf
  rw [Tryz.underlying35]
  simp only [hk, hf]
  show Option.map _ (Tryz.prog.keyLits _ _ [.int .i64 x.dev, .int .i64 x.inc, .int .i64 x.seq]) = _
  rw [hl]
  rfl

theorem keyD_inj {x y : DotN} (hx : FitD x) (hy : FitD y) (h : keyD x = keyD y) : x = y := by
  have e := keyedDot.inj (key_dot hx) (h ▸ key_dot hy)
  simp only [Value.agg.injEq, Array.mk.injEq, List.cons.injEq, Value.int.injEq, true_and, and_true] at e
  exact DotN.ext' e.1 e.2.1 e.2.2
end Go.Proofs.YtelgaglnmcggkaaGreatDoor

/- The program's own contracts of layer 16 that want no table: which dots may be; a dot packed, and read. -/
namespace Go.Proofs.YtelgaglnmcggkaaGreatDoor
open Go.RowKit
set_option linter.unusedVariables false

set_option maxRecDepth 100000 in
theorem dotActorC0 (d i : Int) (w : World) :
    Calls Tryz.prog 128 #[.agg #[.int .i64 d, .int .i64 i]] w fun e w' => e = .returned (.bool (actorD d i)) ∧ Below w.heap.size w w' := by
  have o1 := ObjAt.new w #[.int .i64 d, .int .i64 i] 33
  have hb := below_alloc w (.cells #[.int .i64 d, .int .i64 i] 33)
  have u0 := o1.cell 0 rfl; have u1 := o1.cell 1 rfl
  clear o1
  unfold actorD
  by_cases q0 : 0 ≤ d
  · have d0 : decide (0 ≤ d) = true := decide_eq_true q0
    by_cases q1 : d ≤ 63
    · have d1 : decide (d ≤ 63) = true := decide_eq_true q1
      by_cases q2 : 1 ≤ i
      · have d2 : decide (1 ≤ i) = true := decide_eq_true q2
        by_cases q3 : i ≤ 1048576
        · have d3 : decide (i ≤ 1048576) = true := decide_eq_true q3
          go_enter Tryz.func128, Tryz.ntmps128
          go_wp2
          go_ret
          exact ⟨by simp [*], hb⟩
        · have d3 : decide (i ≤ 1048576) = false := decide_eq_false q3
          go_enter Tryz.func128, Tryz.ntmps128
          go_wp2
          go_ret
          exact ⟨by simp [*], hb⟩
      · have d2 : decide (1 ≤ i) = false := decide_eq_false q2
        go_enter Tryz.func128, Tryz.ntmps128
        go_wp2
        go_ret
        exact ⟨by simp [*], hb⟩
    · have d1 : decide (d ≤ 63) = false := decide_eq_false q1
      go_enter Tryz.func128, Tryz.ntmps128
      go_wp2
      go_ret
      exact ⟨by simp [*], hb⟩
  · have d0 : decide (0 ≤ d) = false := decide_eq_false q0
    go_enter Tryz.func128, Tryz.ntmps128
    go_wp2
    go_ret
    exact ⟨by simp [*], hb⟩

set_option maxRecDepth 100000 in
theorem dotRightC0 (x : DotN) (w : World) :
    Calls Tryz.prog 91 #[.agg #[.int .i64 x.dev, .int .i64 x.inc, .int .i64 x.seq]] w fun e w' => e = .returned (.bool (rightD x)) ∧ Below w.heap.size w w' := by
  have o1 := ObjAt.new w #[.int .i64 x.dev, .int .i64 x.inc, .int .i64 x.seq] 35
  have hb := below_alloc w (.cells #[.int .i64 x.dev, .int .i64 x.inc, .int .i64 x.seq] 35)
  have u0 := o1.cell 0 rfl; have u1 := o1.cell 1 rfl
  have HA := fun v => dotActorC0 x.dev x.inc v
  unfold rightD
  generalize actorD x.dev x.inc = A at *
  cases A with
  | false =>
    go_enter Tryz.func91, Tryz.ntmps91
    go_wp2_with (go_at_call 128; (with_reducible refine (HA _).mono ?_); rintro e w1 ⟨rfl, hx⟩; have hb := hb.trans (hx.mono hb.size))
    go_ret
    exact ⟨rfl, hb⟩
  | true =>
    by_cases q0 : 1 ≤ x.seq
    · have d0 : decide (1 ≤ x.seq) = true := decide_eq_true q0
      by_cases q1 : x.seq ≤ 4294967296
      · have d1 : decide (x.seq ≤ 4294967296) = true := decide_eq_true q1
        go_enter Tryz.func91, Tryz.ntmps91
        go_wp2_with (first
          | (go_at_call 128; (with_reducible refine (HA _).mono ?_); rintro e w1 ⟨rfl, hx⟩; have o2 := o1.below hx o1.lt; have v2 := o2.cell 2 rfl; have hb := hb.trans (hx.mono hb.size); clear hx))
        go_ret
        exact ⟨by simp [*], hb⟩
      · have d1 : decide (x.seq ≤ 4294967296) = false := decide_eq_false q1
        go_enter Tryz.func91, Tryz.ntmps91
        go_wp2_with (first
          | (go_at_call 128; (with_reducible refine (HA _).mono ?_); rintro e w1 ⟨rfl, hx⟩; have o2 := o1.below hx o1.lt; have v2 := o2.cell 2 rfl; have hb := hb.trans (hx.mono hb.size); clear hx))
        go_ret
        exact ⟨by simp [*], hb⟩
    · have d0 : decide (1 ≤ x.seq) = false := decide_eq_false q0
      go_enter Tryz.func91, Tryz.ntmps91
      go_wp2_with (first
        | (go_at_call 128; (with_reducible refine (HA _).mono ?_); rintro e w1 ⟨rfl, hx⟩; have o2 := o1.below hx o1.lt; have v2 := o2.cell 2 rfl; have hb := hb.trans (hx.mono hb.size); clear hx))
      go_ret
      exact ⟨by simp [*], hb⟩

end Go.Proofs.YtelgaglnmcggkaaGreatDoor

/- dot.Sort by a map of the dots that were met and the library's sort (the map's elements are struct{}). -/
namespace Go.Proofs.YtelgaglnmcggkaaGreatDoor
open Go.RowKit
set_option linter.unusedVariables false

/-- The map of the dots that were met: it has each of them, and no other one. -/
def MetAt (D : DataW Unit) (l : List DotN) : Prop := Go.Maps.IsMap D ∧ ∀ x, FitD x → Go.Maps.has D (keyD x) = l.any (sameD x)
theorem MetAt.empty : MetAt (.map []) [] := ⟨Go.Maps.isMap_empty, fun x _ => rfl⟩
theorem MetAt.put {D : DataW Unit} {l : List DotN} (h : MetAt D l) {x : DotN} (hx : FitD x) : MetAt (D.put (keyD x) (.agg [])) (l ++ [x]) := by
  refine ⟨h.1.put _ _, fun y hy => ?_⟩
  by_cases e : y = x
  · subst e
    rw [any_same.2 (by simp)]
    exact Go.Maps.has_put_same h.1 (keyedDot.key (key_dot hy)) _
  · have hne : keyD y ≠ keyD x := fun c => e (keyD_inj hy hx c)
    have he : (l ++ [x]).any (sameD y) = l.any (sameD y) := by
      rw [List.any_append, Bool.eq_iff_iff, Bool.or_eq_true]
      constructor
      · rintro (h | h)
        · exact h
        · rw [any_same, List.mem_singleton] at h
          exact absurd h e
      · exact .inl
    rw [he, Go.Maps.has_put_other hne]
    exact h.2 y hy

theorem zeroUnit (w : World) : (zeroValue 107).run Tryz.prog w = .ok (.agg #[]) w := by kernel_rfl

set_option maxHeartbeats 2000000 in
set_option maxRecDepth 100000 in
theorem dotSortC0 (a : Option Addr) (n c : Nat) (L : List DotN) (w : World) (hL : RowOf encD 3 w a n c L) (hF : ∀ x ∈ L, FitD x) (hn : n ≤ 100000) :
    Calls Tryz.prog 80 #[.slice a n c] w (GivesZ encD 3 35 (sortD L) (sortD L).length w) := by
  have hcm := hL.capm
  have hcl := hL.cle
  have hleq := hL.leq
  unfold maxLen at hcm
  have hmm := @run_makeMap Tryz.prog
  obtain ⟨i0, hi, hz0, hz1, hz2⟩ := info_parts infoDot
  have hm0 := World.ownsMap_made (H := Unit) w Tryz.prog 35 unitElem
  have hb0 := below_alloc w (.map #[] 0)
  have hs0 : w.heap.size + 1 = (w.alloc (.map #[] 0)).heap.size := by simp
  generalize hw0 : w.alloc (.map #[] 0) = w0 at *
  go_enter Tryz.func80, Tryz.ntmps80
  go_wp2
  go_loopw [3, 12] (fun v i wr => ∃ (k m c2 : Nat) (q : Option Addr) (D : DataW Unit), k ≤ n ∧ m ≤ k ∧ i = .int .i64 (k : Int) ∧ v = .slice q m c2 ∧ OwnZ encD 3 (w.heap.size + 1) 35 q m c2 (dedD (L.take k)) wr ∧ wr.ownsMap Tryz.prog 35 unitElem w.heap.size k D ∧ MetAt D (dedD (L.take k)) ∧ Below w.heap.size w wr) (fun _ i _ => n - (intOf i).toNat)
  case atStart => exact ⟨0, 0, 0, none, _, Nat.zero_le _, Nat.le_refl _, rfl, rfl, OwnZ.none _ _ _ _ _, hm0, MetAt.empty, hb0⟩
  case round =>
    obtain ⟨k, m, c2, q, D, hk, hm, rfl, rfl, hz, hmap, hmet, hb⟩ := hrel
    have hwr : w.heap.size + 1 ≤ wr.heap.size := by have := hmap.lt; omega
    by_cases hlt : k < n
    · have hlt' : (k : Int) < (n : Int) := by omega
      obtain ⟨x, g, off, hxk, rfl, u0, u1, u2⟩ := dot_at (hL.below hb) k hlt
      have hfx : FitD x := hF x (List.mem_of_getElem? hxk)
      have hstep : dedD (L.take (k + 1)) = if (dedD (L.take k)).any (sameD x) then dedD (L.take k) else dedD (L.take k) ++ [x] := by
        rw [take_snocI hxk, dedD_snoc]
      have HS := Lib.hid hstep
      have hat0 := hmet.2 x hfx
      have o1 := ObjAt.new wr #[.int .i64 x.dev, .int .i64 x.inc, .int .i64 x.seq] 35
      have b1 := below_alloc wr (.cells #[.int .i64 x.dev, .int .i64 x.inc, .int .i64 x.seq] 35)
      have hz1' := hz.below b1 (Nat.le_refl _)
      have hmap1 := hmap.alloc (.cells #[.int .i64 x.dev, .int .i64 x.inc, .int .i64 x.seq] 35)
      have hb1 := hb.trans (b1.mono hb.size)
      have v0 := o1.cell 0 rfl; have v1 := o1.cell 1 rfl; have v2 := o1.cell 2 rfl
      have hlt1 := o1.lt
      have hs1 : wr.heap.size < (wr.alloc (.cells #[.int .i64 x.dev, .int .i64 x.inc, .int .i64 x.seq] 35)).heap.size := by simp
      have b1b := below_alloc (wr.alloc (.cells #[.int .i64 x.dev, .int .i64 x.inc, .int .i64 x.seq] 35)) (.cells #[] 107)
      have o1b := o1.below b1b hlt1
      have hz1b := hz1'.below b1b (Nat.le_refl _)
      have hmap1b := hmap1.alloc (.cells #[] 107)
      have hb1b := hb1.trans (b1b.mono hb1.size)
      have s0 := o1b.cell 0 rfl; have s1 := o1b.cell 1 rfl; have s2 := o1b.cell 2 rfl
      have hs1b := b1b.size
      clear hstep hxk hz hmap b1 b1b
      generalize dedD (L.take k) = R at *
      cases hy : R.any (sameD x) with
      | true =>
        rw [hy, if_pos rfl] at HS
        rw [hy] at hat0
        go_wp2_with (at_lookup; refine wpList_lookup_own_unit _ rfl _ _ 87 rfl 35 107 keyedDot Tryz.underlying87 (zeroUnit _) w.heap.size _ _ rfl hmap1 _ _ rfl (key_dot hfx) ?_)
        go_roundw
        case rel => exact ⟨k + 1, m, c2, q, D, by omega, by omega, by go_num, rfl, by rw [HS.out]; exact hz1b, hmap1b.mono (by omega), by rw [HS.out]; exact hmet, hb1b⟩
        case measure => simp [intOf]; omega
      | false =>
        rw [hy, if_neg Bool.false_ne_true] at HS
        rw [hy] at hat0
        go_wp2_with (first
          | (at_lookup; refine wpList_lookup_own_unit _ rfl _ _ 87 rfl 35 107 keyedDot Tryz.underlying87 (zeroUnit _) w.heap.size _ _ rfl hmap1 _ _ rfl (key_dot hfx) ?_)
          | (at_mapUpdate; refine wpList_mapUpdate_own _ rfl _ _ _ 87 rfl 35 107 keyedDot Tryz.underlying87 unitElem w.heap.size _ _ rfl hmap1b (by unfold maxLen; omega) _ _ _ rfl rfl (key_dot hfx) _ [] unitElem_mk ?_; intro w2 hmap2 hg2; have k2 := Keeps.ofGrownBy hg2; have o2 := o1b.keeps k2 (fun e => by have := Option.some.inj e; omega); have hz2' := hz1b.keeps k2 (fun i h1 h2 => by have := Option.some.inj h2; have := (hz1b.lt' _ h1).1; omega); have hb2 := hb1b.trans (k2.below hb1b.size (fun i _ h => by have := Option.some.inj h; omega)); have x0 := o2.cell 0 rfl; have x1 := o2.cell 1 rfl; have x2 := o2.cell 2 rfl)
          | (at_builtin; refine wpList_append_row1 encD_len (by decide) encD_one rfl (.tmp 27) (.tmp 29) 29 rfl 35 i0 (.agg #[.int .i64 0, .int .i64 0, .int .i64 0]) 24 Tryz.underlying29 hi hz0 hz1 hz2 rfl hz2' rfl x rfl rfl (m + 1) rfl (by unfold maxLen; omega) (by omega) (Nat.le_trans hwr (by have := k2.size; omega)) ?_; intro q3 c3 w3 hz3 hx3 hg3 hn3; have k3 := Keeps.ofGrown hx3 hg3; have hmap3 := k3.grownBy (fun h => by have := (hz2'.lt' _ h).1; omega) hmap2; have hb3 := hb2.trans (hx3.mono (Nat.le_succ _))))
        go_roundw
        case rel => exact ⟨k + 1, m + 1, c3, q3, _, by omega, by omega, by go_num, rfl, by rw [HS.out]; exact hz3, hmap3, by rw [HS.out]; exact hmet.put hfx, hb3⟩
        case measure => simp [intOf]; omega
    · obtain rfl : k = n := by omega
      have e0 : L.take k = L := List.take_of_length_le (by rw [hleq]; exact Nat.le_refl _)
      rw [e0] at hz hmet
      have hRl : (dedD L).length = m := hz.2.1
      rcases hz.head with ⟨rfl, rfl, rfl⟩ | ⟨g, rfl, hg1, hg2⟩
      · have hnil : dedD L = [] := List.eq_nil_of_length_eq_zero hRl
        have hs : sortD L = [] := by
          refine List.eq_nil_iff_forall_not_mem.2 fun y hy => ?_
          rw [sortD_mem, ← dedD_mem, hnil] at hy
          cases hy
        have hcon := fun v => AnyF.slices_SortFunc_none Tryz.sortDot none 0 (.func (.func 119) #[] #[]) v
        change ∀ v, Calls Tryz.prog 118 _ v _ at hcon
        go_wp2_with (go_at_call 118; refine (hcon _).mono ?_; rintro e w2 ⟨rfl, rfl⟩)
        go_ret
        rw [hs]
        exact ⟨none, 0, rfl, OwnZ.none _ _ _ _ _, hb⟩
      · have eg : ∀ args w, (callFunc 119 args).run Tryz.prog w = .ok (.enter 119 args) w := enters_of Tryz.func119 (by kernel_rfl) rfl
        have hcmp : Go.Proofs.CmpLays Tryz.prog 119 #[] encD 3 ordD g 0 (dedD L).toArray.size wr := fun _ _ _ _ x y => dotOrderG x y _
        have hcon := AnyQ.slices_SortFunc Tryz.sortDot 3 Tryz.isAgg35 Tryz.sizeOf35 encD encD_len encD_one ordD swoD 119 #[] g 0 c2 (dedD L).toArray wr eg hcmp (own_holds encD_len hz) hg2 (by simp [hRl]; omega)
        have hsz : (dedD L).toArray.size = m := by simp [hRl]
        rw [hsz] at hcon
        change Calls Tryz.prog 118 _ wr _ at hcon
        have HZ := Lib.hid hz
        clear hcmp hmet hmap hz eg
        go_wp2_with (go_at_call 118; refine hcon.mono ?_; rintro e w2 ⟨rfl, d', nn, os, hp, hso, rfl⟩)
        go_ret
        rw [← hsz] at hp
        obtain ⟨p1, p2⟩ := permIn_all hp
        rw [hsz] at p1
        have hlist : d'.toList = sortD L := sortD_is p2 (by
          have := sortedIn_all p1 hso
          simpa only [ord_less] using this)
        have hown := own_sorted encD_len HZ.out d'.toList (by simpa using p1) nn os
        rw [Array.toArray_toList] at hown
        have hlen : (sortD L).length = m := by rw [← hlist]; simpa using p1
        refine ⟨some ⟨g, 0, none⟩, c2, by rw [hlen]; rfl, by rw [hlen, ← hlist]; exact hown.base (Nat.le_succ _), hb.trans ((keeps_sortedK d').below hb.size (fun i _ h => by subst h; omega))⟩
end Go.Proofs.YtelgaglnmcggkaaGreatDoor
