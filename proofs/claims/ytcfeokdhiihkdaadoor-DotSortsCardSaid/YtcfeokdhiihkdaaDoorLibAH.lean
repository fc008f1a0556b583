/- Contracts and plain words that the laws' proofs stand on, put together. -/
import Derived.Test.YtcfeokdhiihkdaaDoorDotRef2
import Derived.Test.YtcfeokdhiihkdaaDoorLibAG
import Derived.Test.YtcfeokdhiihkdaaDoorLibAA
import Derived.DeepKeys4
import Derived.Maps.OwnOps
import Derived.Maps.OwnSet
import Derived.Maps.Views
import Derived.Test.YtcfeokdhiihkdaaDoorShelf
import Derived.Shelf.SlSortCmp.WholeK
import Derived.Shelf.SlSortCmp.NoneTotal
import Derived.Test.YtcfeokdhiihkdaaDoorLibAE
import Derived.Test.YtcfeokdhiihkdaaDoorAsciiText
import Derived.Test.YtcfeokdhiihkdaaDoorLibAF
import Derived.Deep.RegionHeld3
/- How dots as arguments are opened. -/
namespace Go.Proofs.YtcfeokdhiihkdaaDoor
open Go.ChangeShapes Go.WideShapes Go.ChangeAt Go.RowKit
set_option linter.unusedVariables false

instance : Inhabited DotN := ⟨⟨0, 0, 0⟩⟩

theorem wf_is64 {n : Int} (h : (Lit.int .i64 n).wf = true) : is64 n := by
  have h2 : IntKind.i64.min ≤ n ∧ n ≤ IntKind.i64.max := by simpa [Lit.wf] using h
  exact h2

theorem leaves_dot {l : List Value} (q0 : leavesOk [.num .i64, .num .i64, .num .i64] l) : ∃ x : DotN, l = encD x ∧ FitD x := by
  obtain ⟨v0, l0, e0, ⟨a, rfl, z0⟩, q1⟩ := leaves_cons q0
  obtain ⟨v1, l1, e1, ⟨b, rfl, z1⟩, q2⟩ := leaves_cons q1
  obtain ⟨v2, l2, e2, ⟨c, rfl, z2⟩, q3⟩ := leaves_cons q2
  have e3 := leaves_nil q3
  subst e3 e2 e1 e0
  exact ⟨⟨a, b, c⟩, rfl, wf_is64 z0, wf_is64 z1, wf_is64 z2⟩

set_option maxRecDepth 100000 in
theorem open_dots {H : Type} {enc : TypeId × Value → H} {w : World} {r : Reach} {b0 : Nat} {v : Value} {d : DataW H} {p : List MemPlace} (hv : Value.okWide Tryd.prog w r b0 37 v) (h : DataW.Trod enc Tryd.prog w 0 (fun _ => true) true 37 v d p) :
    ∃ a len cap, ∃ Q : List DotN, v = .slice a len cap ∧ RowOf encD 3 w a len cap Q ∧ ∀ x ∈ Q, FitD x :=
  open_rows_of encD FitD 3 4 [.num .i64, .num .i64, .num .i64] Tryd.underlying37 (by kernel_rfl) (by decide) (by kernel_rfl) (fun cs h => leaves_dot h) hv h

set_option maxRecDepth 100000 in
theorem open_dotX {H : Type} {enc : TypeId × Value → H} {w : World} {r : Reach} {b0 : Nat} {v : Value} {d : DataW H} {p : List MemPlace} (hv : Value.okWide Tryd.prog w r b0 25 v) (h : DataW.Trod enc Tryd.prog w 0 (fun _ => true) true 25 v d p) :
    ∃ x : DotN, v = .agg #[.int .i64 x.dev, .int .i64 x.inc, .int .i64 x.seq] ∧ FitD x := by
  obtain ⟨cs, rfl, hl⟩ := open_flat 4 [.num .i64, .num .i64, .num .i64] Tryd.underlying25 (by kernel_rfl) hv h
  obtain ⟨x, h1, h2⟩ := leaves_dot hl
  refine ⟨x, ?_, h2⟩
  have : cs = #[.int .i64 x.dev, .int .i64 x.inc, .int .i64 x.seq] := Array.toList_inj.mp h1
  rw [this]
end Go.Proofs.YtcfeokdhiihkdaaDoor

/- Dots as keys of maps; maps of the call's own whose elements are numbers. -/
namespace Go.Proofs.YtcfeokdhiihkdaaDoor
open Go.RowKit Go.WideMaps
set_option linter.unusedVariables false

theorem laidOutK : laidOutB Tryd.prog = true := by kernel_rfl
theorem lawDot : KeyLaw Tryd.prog 25 := deep_law_laid laidOutK (m := 4) (by omega) (of_decide_eq_true (by kernel_rfl)) (by kernel_rfl) (by kernel_rfl)
theorem keyedDot : Go.Maps.Keyed Tryd.prog 25 := Go.Maps.Keyed.of_law lawDot

/-- What a dot reads as, as a key. -/
def keyD (x : DotN) : Lit := .string (keyBytes [.int .i64 x.dev, .int .i64 x.inc, .int .i64 x.seq])
theorem fit_wf {n : Int} (h : is64 n) : (Lit.int .i64 n).wf = true := by
  have h2 : IntKind.i64.min ≤ n ∧ n ≤ IntKind.i64.max := h
  simp only [Lit.wf, Bool.and_eq_true, decide_eq_true_eq]
  exact h2

set_option maxRecDepth 100000 in
theorem key_dot {x : DotN} (hx : FitD x) : keyOf Tryd.prog 25 (.agg #[.int .i64 x.dev, .int .i64 x.inc, .int .i64 x.seq]) = some (keyD x) := by
  have w1 := fit_wf hx.dev
  have w2 := fit_wf hx.inc
  have w3 := fit_wf hx.seq
  have hk : Tryd.prog.keyType 25 = true := by kernel_rfl
  obtain ⟨m, hm⟩ : ∃ m, Tryd.prog.types.size = m + 2 := ⟨Tryd.prog.types.size - 2, by kernel_rfl⟩
  have hc : Tryd.prog.cellsOf 25 = 3 := by kernel_rfl
  have hc2 : Tryd.prog.cellsOf 23 = 2 := by kernel_rfl
  have hc3 : Tryd.prog.cellsOf 3 = 1 := by kernel_rfl
  have hf : (Value.agg #[.int .i64 x.dev, .int .i64 x.inc, .int .i64 x.seq]).formed Tryd.prog 25 = true := by simp [Value.formed, Tryd.underlying25, hc]
  have hl : Tryd.prog.keyLits (Tryd.prog.types.size + 1) 25 [.int .i64 x.dev, .int .i64 x.inc, .int .i64 x.seq] = some [.int .i64 x.dev, .int .i64 x.inc, .int .i64 x.seq] := by
    rw [hm]
    simp [Program.keyLits, Tryd.underlying25, Tryd.underlying23, Tryd.underlying3, hc, hc2, hc3, w1, w2, w3]
    rw [if_pos (by decide)]
    rfl
  unfold keyOf
  rw [Tryd.underlying25]
  simp only [hk, hf]
  show Option.map _ (Tryd.prog.keyLits _ _ [.int .i64 x.dev, .int .i64 x.inc, .int .i64 x.seq]) = _
  rw [hl]
  rfl

theorem keyD_inj {x y : DotN} (hx : FitD x) (hy : FitD y) (h : keyD x = keyD y) : x = y := by
  have e := keyedDot.inj (key_dot hx) (h ▸ key_dot hy)
  simp only [Value.agg.injEq, Array.mk.injEq, List.cons.injEq, Value.int.injEq, true_and, and_true] at e
  exact DotN.ext' e.1 e.2.1 e.2.2
end Go.Proofs.YtcfeokdhiihkdaaDoor

/- dot.Sort by a map of the dots that were met and the library's sort (the map's elements are struct{}). -/
namespace Go.Proofs.YtcfeokdhiihkdaaDoor
open Go.RowKit
set_option linter.unusedVariables false

/-- The map of the dots that were met: it has each of them, and no other one. -/
def MetAt (D : DataW Unit) (l : List DotN) : Prop := Go.Maps.IsMap D ∧ ∀ x, FitD x → Go.Maps.has D (keyD x) = l.any (sameD x)
theorem MetAt.empty : MetAt (.map []) [] := ⟨Go.Maps.isMap_empty, fun x _ => rfl⟩
theorem MetAt.put {D : DataW Unit} {l : List DotN} (h : MetAt D l) {x : DotN} (hx : FitD x) : MetAt (D.put (keyD x) (.agg [])) (l ++ [x]) := by
  refine ⟨h.1.put _ _, fun y hy => ?_⟩
  by_cases e : y = x
  · subst e
    rw [any_same.2 (by simp)]
    exact Go.Maps.has_put_same h.1 (keyedDot.key (key_dot hy)) _
  · have hne : keyD y ≠ keyD x := fun c => e (keyD_inj hy hx c)
    have he : (l ++ [x]).any (sameD y) = l.any (sameD y) := by
      rw [List.any_append, Bool.eq_iff_iff, Bool.or_eq_true]
      constructor
      · rintro (h | h)
        · exact h
        · rw [any_same, List.mem_singleton] at h
          exact absurd h e
      · exact .inl
    rw [he, Go.Maps.has_put_other hne]
    exact h.2 y hy

theorem zeroUnit (w : World) : (zeroValue 65).run Tryd.prog w = .ok (.agg #[]) w := by kernel_rfl

set_option maxHeartbeats 2000000 in
set_option maxRecDepth 100000 in
theorem dotSortC0 (a : Option Addr) (n c : Nat) (L : List DotN) (w : World) (hL : RowOf encD 3 w a n c L) (hF : ∀ x ∈ L, FitD x) (hn : n ≤ 100) :
    Calls Tryd.prog 26 #[.slice a n c] w (GivesZ encD 3 25 (sortD L) (sortD L).length w) := by
  have hcm := hL.capm
  have hcl := hL.cle
  have hleq := hL.leq
  unfold maxLen at hcm
  have hmm := @run_makeMap Tryd.prog
  obtain ⟨i0, hi, hz0, hz1, hz2⟩ := info_parts infoDot
  have hm0 := World.ownsMap_made (H := Unit) w Tryd.prog 25 unitElem
  have hb0 := below_alloc w (.map #[] 0)
  have hs0 : w.heap.size + 1 = (w.alloc (.map #[] 0)).heap.size := by simp
  generalize hw0 : w.alloc (.map #[] 0) = w0 at *
  go_enter Tryd.func26, Tryd.ntmps26
  go_wp2
  go_loopw [3, 12] (fun v i wr => ∃ (k m c2 : Nat) (q : Option Addr) (D : DataW Unit), k ≤ n ∧ m ≤ k ∧ i = .int .i64 (k : Int) ∧ v = .slice q m c2 ∧ OwnZ encD 3 (w.heap.size + 1) 25 q m c2 (dedD (L.take k)) wr ∧ wr.ownsMap Tryd.prog 25 unitElem w.heap.size k D ∧ MetAt D (dedD (L.take k)) ∧ Below w.heap.size w wr) (fun _ i _ => n - (intOf i).toNat)
  case atStart => exact ⟨0, 0, 0, none, _, Nat.zero_le _, Nat.le_refl _, rfl, rfl, OwnZ.none _ _ _ _ _, hm0, MetAt.empty, hb0⟩
  case round =>
    obtain ⟨k, m, c2, q, D, hk, hm, rfl, rfl, hz, hmap, hmet, hb⟩ := hrel
    have hwr : w.heap.size + 1 ≤ wr.heap.size := by have := hmap.lt; omega
    by_cases hlt : k < n
    · have hlt' : (k : Int) < (n : Int) := by omega
      obtain ⟨x, g, off, hxk, rfl, u0, u1, u2⟩ := dot_at (hL.below hb) k hlt
      have hfx : FitD x := hF x (List.mem_of_getElem? hxk)
      have hstep : dedD (L.take (k + 1)) = if (dedD (L.take k)).any (sameD x) then dedD (L.take k) else dedD (L.take k) ++ [x] := by
        rw [take_snocI hxk, dedD_snoc]
      have HS := Lib.hid hstep
      have hat0 := hmet.2 x hfx
      have o1 := ObjAt.new wr #[.int .i64 x.dev, .int .i64 x.inc, .int .i64 x.seq] 25
      have b1 := below_alloc wr (.cells #[.int .i64 x.dev, .int .i64 x.inc, .int .i64 x.seq] 25)
      have hz1' := hz.below b1 (Nat.le_refl _)
      have hmap1 := hmap.alloc (.cells #[.int .i64 x.dev, .int .i64 x.inc, .int .i64 x.seq] 25)
      have hb1 := hb.trans (b1.mono hb.size)
      have v0 := o1.cell 0 rfl; have v1 := o1.cell 1 rfl; have v2 := o1.cell 2 rfl
      have hlt1 := o1.lt
      have hs1 : wr.heap.size < (wr.alloc (.cells #[.int .i64 x.dev, .int .i64 x.inc, .int .i64 x.seq] 25)).heap.size := by simp
      have b1b := below_alloc (wr.alloc (.cells #[.int .i64 x.dev, .int .i64 x.inc, .int .i64 x.seq] 25)) (.cells #[] 65)
      have o1b := o1.below b1b hlt1
      have hz1b := hz1'.below b1b (Nat.le_refl _)
      have hmap1b := hmap1.alloc (.cells #[] 65)
      have hb1b := hb1.trans (b1b.mono hb1.size)
      have s0 := o1b.cell 0 rfl; have s1 := o1b.cell 1 rfl; have s2 := o1b.cell 2 rfl
      have hs1b := b1b.size
      clear hstep hxk hz hmap b1 b1b
      generalize dedD (L.take k) = R at *
      cases hy : R.any (sameD x) with
      | true =>
        rw [hy, if_pos rfl] at HS
        rw [hy] at hat0
        go_wp2_with (at_lookup; refine wpList_lookup_own_unit _ rfl _ _ 64 rfl 25 65 keyedDot Tryd.underlying64 (zeroUnit _) w.heap.size _ _ rfl hmap1 _ _ rfl (key_dot hfx) ?_)
        go_roundw
        case rel => exact ⟨k + 1, m, c2, q, D, by omega, by omega, by go_num, rfl, by rw [HS.out]; exact hz1b, hmap1b.mono (by omega), by rw [HS.out]; exact hmet, hb1b⟩
        case measure => simp [intOf]; omega
      | false =>
        rw [hy, if_neg Bool.false_ne_true] at HS
        rw [hy] at hat0
        go_wp2_with (first
          | (at_lookup; refine wpList_lookup_own_unit _ rfl _ _ 64 rfl 25 65 keyedDot Tryd.underlying64 (zeroUnit _) w.heap.size _ _ rfl hmap1 _ _ rfl (key_dot hfx) ?_)
          | (at_mapUpdate; refine wpList_mapUpdate_own _ rfl _ _ _ 64 rfl 25 65 keyedDot Tryd.underlying64 unitElem w.heap.size _ _ rfl hmap1b (by unfold maxLen; omega) _ _ _ rfl rfl (key_dot hfx) _ [] unitElem_mk ?_; intro w2 hmap2 hg2; have k2 := Keeps.ofGrownBy hg2; have o2 := o1b.keeps k2 (fun e => by have := Option.some.inj e; omega); have hz2' := hz1b.keeps k2 (fun i h1 h2 => by have := Option.some.inj h2; have := (hz1b.lt' _ h1).1; omega); have hb2 := hb1b.trans (k2.below hb1b.size (fun i _ h => by have := Option.some.inj h; omega)); have x0 := o2.cell 0 rfl; have x1 := o2.cell 1 rfl; have x2 := o2.cell 2 rfl)
          | (at_builtin; refine wpList_append_row1 encD_len (by decide) encD_one rfl (.tmp 27) (.tmp 29) 37 rfl 25 i0 (.agg #[.int .i64 0, .int .i64 0, .int .i64 0]) 24 Tryd.underlying37 hi hz0 hz1 hz2 rfl hz2' rfl x rfl rfl (m + 1) rfl (by unfold maxLen; omega) (by omega) (Nat.le_trans hwr (by have := k2.size; omega)) ?_; intro q3 c3 w3 hz3 hx3 hg3 hn3; have k3 := Keeps.ofGrown hx3 hg3; have hmap3 := k3.grownBy (fun h => by have := (hz2'.lt' _ h).1; omega) hmap2; have hb3 := hb2.trans (hx3.mono (Nat.le_succ _))))
        go_roundw
        case rel => exact ⟨k + 1, m + 1, c3, q3, _, by omega, by omega, by go_num, rfl, by rw [HS.out]; exact hz3, hmap3, by rw [HS.out]; exact hmet.put hfx, hb3⟩
        case measure => simp [intOf]; omega
    · obtain rfl : k = n := by omega
      have e0 : L.take k = L := List.take_of_length_le (by rw [hleq]; exact Nat.le_refl _)
      rw [e0] at hz hmet
      have hRl : (dedD L).length = m := hz.2.1
      rcases hz.head with ⟨rfl, rfl, rfl⟩ | ⟨g, rfl, hg1, hg2⟩
      · have hnil : dedD L = [] := List.eq_nil_of_length_eq_zero hRl
        have hs : sortD L = [] := by
          refine List.eq_nil_iff_forall_not_mem.2 fun y hy => ?_
          rw [sortD_mem, ← dedD_mem, hnil] at hy
          cases hy
        have hcon := fun v => AnyF.slices_SortFunc_none Tryd.sortDot none 0 (.func (.func 28) #[] #[]) v
        change ∀ v, Calls Tryd.prog 38 _ v _ at hcon
        go_wp2_with (go_at_call 38; refine (hcon _).mono ?_; rintro e w2 ⟨rfl, rfl⟩)
        go_ret
        rw [hs]
        exact ⟨none, 0, rfl, OwnZ.none _ _ _ _ _, hb⟩
      · have eg : ∀ args w, (callFunc 28 args).run Tryd.prog w = .ok (.enter 28 args) w := enters_of Tryd.func28 (by kernel_rfl) rfl
        have hcmp : Go.Proofs.CmpLays Tryd.prog 28 #[] encD 3 ordD g 0 (dedD L).toArray.size wr := fun _ _ _ _ x y => dotOrderG x y _
        have hcon := AnyQ.slices_SortFunc Tryd.sortDot 3 Tryd.isAgg25 Tryd.sizeOf25 encD encD_len encD_one ordD swoD 28 #[] g 0 c2 (dedD L).toArray wr eg hcmp (own_holds encD_len hz) hg2 (by simp [hRl]; omega)
        have hsz : (dedD L).toArray.size = m := by simp [hRl]
        rw [hsz] at hcon
        change Calls Tryd.prog 38 _ wr _ at hcon
        have HZ := Lib.hid hz
        clear hcmp hmet hmap hz eg
        go_wp2_with (go_at_call 38; refine hcon.mono ?_; rintro e w2 ⟨rfl, d', nn, os, hp, hso, rfl⟩)
        go_ret
        rw [← hsz] at hp
        obtain ⟨p1, p2⟩ := permIn_all hp
        rw [hsz] at p1
        have hlist : d'.toList = sortD L := sortD_is p2 (by
          have := sortedIn_all p1 hso
          simpa only [ord_less] using this)
        have hown := own_sorted encD_len HZ.out d'.toList (by simpa using p1) nn os
        rw [Array.toArray_toList] at hown
        have hlen : (sortD L).length = m := by rw [← hlist]; simpa using p1
        refine ⟨some ⟨g, 0, none⟩, c2, by rw [hlen]; rfl, by rw [hlen, ← hlist]; exact hown.base (Nat.le_succ _), hb.trans ((keeps_sortedK d').below hb.size (fun i _ h => by subst h; omega))⟩
end Go.Proofs.YtcfeokdhiihkdaaDoor

/- Contracts of the reference of layer 16: a dot, packed. -/
namespace Go.Proofs.YtcfeokdhiihkdaaDoor
open Go.RowKit
set_option linter.unusedVariables false

set_option maxRecDepth 100000 in
theorem refDPutC (x : DotN) (n : Nat) (w : World) (hx : rightD x = true) (hn : (bytesD x).length = n) :
    Calls Tryd.prog 19 #[.agg #[.int .i64 x.dev, .int .i64 x.inc, .int .i64 x.seq]] w (GivesOwned 5 ((bytesD x).map (Value.int .u8)) n w) := by
  obtain ⟨i0, hi, hz0, hz1, hz2⟩ := info_parts info8
  obtain ⟨d0, d1, e0, e1, s0, s1⟩ := right_range hx
  clear hx
  obtain ⟨dev, inc, seq⟩ := x
  dsimp only at *
  obtain ⟨D, rfl⟩ := Int.eq_ofNat_of_zero_le d0
  obtain ⟨I, rfl⟩ := Int.eq_ofNat_of_zero_le (show 0 ≤ inc by omega)
  obtain ⟨S, rfl⟩ := Int.eq_ofNat_of_zero_le (show 0 ≤ seq by omega)
  have o1 := ObjAt.new w #[.int .i64 (D : Int), .int .i64 (I : Int), .int .i64 (S : Int)] 25
  have b1 := below_alloc w (.cells #[.int .i64 (D : Int), .int .i64 (I : Int), .int .i64 (S : Int)] 25)
  have hs1 : w.heap.size < (w.alloc (.cells #[.int .i64 (D : Int), .int .i64 (I : Int), .int .i64 (S : Int)] 25)).heap.size := by simp
  have u0 := o1.cell 0 rfl; have u1 := o1.cell 1 rfl; have u2 := o1.cell 2 rfl
  have l1 := short_ten D (by omega)
  have l2 := short_ten I (by omega)
  have l3 := short_ten S (by omega)
  unfold bytesD at *
  dsimp only at *
  rw [Int.toNat_natCast, Int.toNat_natCast, Int.toNat_natCast] at *
  rw [List.length_append, List.length_append] at hn
  have H1 := fun w => refNumC (short D) D (short D).length w rfl rfl (by omega)
  have H2 := fun w => refNumC (short I) I (short I).length w rfl rfl (by omega)
  have H3 := fun w => refNumC (short S) S (short S).length w rfl rfl (by omega)
  rw [List.map_append, List.map_append, ← List.append_assoc]
  obtain ⟨m1, h1⟩ : ∃ m, (short D).length = m := ⟨_, rfl⟩
  obtain ⟨m2, h2⟩ : ∃ m, (short I).length = m := ⟨_, rfl⟩
  obtain ⟨m3, h3⟩ : ∃ m, (short S).length = m := ⟨_, rfl⟩
  rw [h1, h2, h3] at hn
  rw [h1] at H1 l1
  rw [h2] at H2 l2
  rw [h3] at H3 l3
  generalize short D = y1 at *
  generalize short I = y2 at *
  generalize short S = y3 at *
  have L2 := Lib.hid h2
  have L3 := Lib.hid h3
  have hn12 : m1 + m2 + m3 = n := by omega
  clear h1 h2 h3 hn
  have c1 : ((D : Nat) : Int) < 18446744073709551616 := by omega
  have c2 : ((I : Nat) : Int) < 18446744073709551616 := by omega
  have c3 : ((S : Nat) : Int) < 18446744073709551616 := by omega
  go_enter Tryd.func19, Tryd.ntmps19
  go_wp2_with (first
    | (go_at_call 32; (with_reducible refine (H1 _).mono ?_); rintro e w2 ⟨a2, c2, rfl, ho2, hx2⟩; have b2 := b1.trans (hx2.mono b1.size); have o2 := o1.below hx2 o1.lt; have v0 := o2.cell 0 rfl; have v1 := o2.cell 1 rfl; have v2 := o2.cell 2 rfl)
    | (go_at_call 32; (with_reducible refine (H2 _).mono ?_); rintro e w3 ⟨a3, c3, rfl, ho3, hx3⟩; have b3 := b2.trans (hx3.mono b2.size); have ho23 := (ho2.base b1.size).below hx3 (Nat.le_refl _); have o3 := o2.below hx3 o2.lt)
    | (at_builtin; refine wpList_append_where rfl (.tmp 9) (.tmp 14) 39 rfl 5 i0 (.int .u8 0) 1 Tryd.underlying39 hi hz0 hz1 hz2 rfl ho23 rfl ho3.reads rfl (by rw [List.length_map, L2.out]) ho3.nil0 (bytes_one y2 .u8) (m1 + m2) rfl (by unfold maxLen; omega) (by omega) b3.size ?_; intro a4 c4 w4 ho4 hx4 hg4 hn4; have b4 := b3.trans hx4; have o4 := o3.keeps (Keeps.ofGrown hx4 hg4) (fun hk => absurd ((ho2.at' _ hk).1) (Nat.not_le.2 hs1)); have v0 := o4.cell 0 rfl; have v1 := o4.cell 1 rfl; have v2 := o4.cell 2 rfl)
    | (go_at_call 32; (with_reducible refine (H3 _).mono ?_); rintro e w5 ⟨a5, c5, rfl, ho5, hx5⟩; have b5 := b4.trans (hx5.mono b4.size); have ho45 := ho4.below hx5 (Nat.le_refl _))
    | (at_builtin; refine wpList_append_where rfl (.tmp 16) (.tmp 20) 39 rfl 5 i0 (.int .u8 0) 1 Tryd.underlying39 hi hz0 hz1 hz2 rfl ho45 rfl ho5.reads rfl (by rw [List.length_map, L3.out]) ho5.nil0 (bytes_one y3 .u8) n hn12 (by unfold maxLen; omega) (by omega) b5.size ?_; intro a6 c6 w6 ho6 hx6 hg6 hn6))
  go_ret
  exact ⟨a6, c6, rfl, ho6, b5.trans hx6⟩
end Go.Proofs.YtcfeokdhiihkdaaDoor

/- The program's own contracts of layer 16: names of events. -/
namespace Go.Proofs.YtcfeokdhiihkdaaDoor
open Go.RowKit
set_option linter.unusedVariables false

/-- The tables that the program reads. -/
abbrev DTb (w : World) : Prop := PTab Tryd.prog w
theorem DTb.below {w w' : World} (h : DTb w) (hb : Below w.heap.size w w') : DTb w' := PTab.below h hb

set_option maxRecDepth 100000 in
theorem dotActorC0 (d i : Int) (w : World) :
    Calls Tryd.prog 11 #[.agg #[.int .i64 d, .int .i64 i]] w fun e w' => e = .returned (.bool (actorD d i)) ∧ Below w.heap.size w w' := by
  have o1 := ObjAt.new w #[.int .i64 d, .int .i64 i] 23
  have hb := below_alloc w (.cells #[.int .i64 d, .int .i64 i] 23)
  have u0 := o1.cell 0 rfl; have u1 := o1.cell 1 rfl
  clear o1
  unfold actorD
  by_cases q0 : 0 ≤ d
  · have d0 : decide (0 ≤ d) = true := decide_eq_true q0
    by_cases q1 : d ≤ 63
    · have d1 : decide (d ≤ 63) = true := decide_eq_true q1
      by_cases q2 : 1 ≤ i
      · have d2 : decide (1 ≤ i) = true := decide_eq_true q2
        by_cases q3 : i ≤ 1048576
        · have d3 : decide (i ≤ 1048576) = true := decide_eq_true q3
          go_enter Tryd.func11, Tryd.ntmps11
          go_wp2
          go_ret
          exact ⟨by simp [*], hb⟩
        · have d3 : decide (i ≤ 1048576) = false := decide_eq_false q3
          go_enter Tryd.func11, Tryd.ntmps11
          go_wp2
          go_ret
          exact ⟨by simp [*], hb⟩
      · have d2 : decide (1 ≤ i) = false := decide_eq_false q2
        go_enter Tryd.func11, Tryd.ntmps11
        go_wp2
        go_ret
        exact ⟨by simp [*], hb⟩
    · have d1 : decide (d ≤ 63) = false := decide_eq_false q1
      go_enter Tryd.func11, Tryd.ntmps11
      go_wp2
      go_ret
      exact ⟨by simp [*], hb⟩
  · have d0 : decide (0 ≤ d) = false := decide_eq_false q0
    go_enter Tryd.func11, Tryd.ntmps11
    go_wp2
    go_ret
    exact ⟨by simp [*], hb⟩

set_option maxRecDepth 100000 in
theorem dotRightC0 (x : DotN) (w : World) :
    Calls Tryd.prog 10 #[.agg #[.int .i64 x.dev, .int .i64 x.inc, .int .i64 x.seq]] w fun e w' => e = .returned (.bool (rightD x)) ∧ Below w.heap.size w w' := by
  have o1 := ObjAt.new w #[.int .i64 x.dev, .int .i64 x.inc, .int .i64 x.seq] 25
  have hb := below_alloc w (.cells #[.int .i64 x.dev, .int .i64 x.inc, .int .i64 x.seq] 25)
  have u0 := o1.cell 0 rfl; have u1 := o1.cell 1 rfl
  have HA := fun v => dotActorC0 x.dev x.inc v
  unfold rightD
  generalize actorD x.dev x.inc = A at *
  cases A with
  | false =>
    go_enter Tryd.func10, Tryd.ntmps10
    go_wp2_with (go_at_call 11; (with_reducible refine (HA _).mono ?_); rintro e w1 ⟨rfl, hx⟩; have hb := hb.trans (hx.mono hb.size))
    go_ret
    exact ⟨rfl, hb⟩
  | true =>
    by_cases q0 : 1 ≤ x.seq
    · have d0 : decide (1 ≤ x.seq) = true := decide_eq_true q0
      by_cases q1 : x.seq ≤ 4294967296
      · have d1 : decide (x.seq ≤ 4294967296) = true := decide_eq_true q1
        go_enter Tryd.func10, Tryd.ntmps10
        go_wp2_with (first
          | (go_at_call 11; (with_reducible refine (HA _).mono ?_); rintro e w1 ⟨rfl, hx⟩; have o2 := o1.below hx o1.lt; have v2 := o2.cell 2 rfl; have hb := hb.trans (hx.mono hb.size); clear hx))
        go_ret
        exact ⟨by simp [*], hb⟩
      · have d1 : decide (x.seq ≤ 4294967296) = false := decide_eq_false q1
        go_enter Tryd.func10, Tryd.ntmps10
        go_wp2_with (first
          | (go_at_call 11; (with_reducible refine (HA _).mono ?_); rintro e w1 ⟨rfl, hx⟩; have o2 := o1.below hx o1.lt; have v2 := o2.cell 2 rfl; have hb := hb.trans (hx.mono hb.size); clear hx))
        go_ret
        exact ⟨by simp [*], hb⟩
    · have d0 : decide (1 ≤ x.seq) = false := decide_eq_false q0
      go_enter Tryd.func10, Tryd.ntmps10
      go_wp2_with (first
        | (go_at_call 11; (with_reducible refine (HA _).mono ?_); rintro e w1 ⟨rfl, hx⟩; have o2 := o1.below hx o1.lt; have v2 := o2.cell 2 rfl; have hb := hb.trans (hx.mono hb.size); clear hx))
      go_ret
      exact ⟨by simp [*], hb⟩

theorem dotSortC (a : Option Addr) (n c : Nat) (L : List DotN) (w : World) (hL : RowOf encD 3 w a n c L) (hF : ∀ x ∈ L, FitD x) (hn : n ≤ 100) (hT : DTb w) :
    Calls Tryd.prog 26 #[.slice a n c] w (GivesZ encD 3 25 (sortD L) (sortD L).length w) := dotSortC0 a n c L w hL hF hn

theorem dotRightC (x : DotN) (w : World) (hT : DTb w) :
    Calls Tryd.prog 10 #[.agg #[.int .i64 x.dev, .int .i64 x.inc, .int .i64 x.seq]] w fun e w' => e = .returned (.bool (rightD x)) ∧ Below w.heap.size w w' := dotRightC0 x w

theorem dotActorC (d i : Int) (w : World) (hT : DTb w) :
    Calls Tryd.prog 11 #[.agg #[.int .i64 d, .int .i64 i]] w fun e w' => e = .returned (.bool (actorD d i)) ∧ Below w.heap.size w w' := dotActorC0 d i w

set_option maxRecDepth 100000 in
theorem dotLessC (x y : DotN) (w : World) (hT : DTb w) :
    Calls Tryd.prog 13 #[.agg #[.int .i64 x.dev, .int .i64 x.inc, .int .i64 x.seq], .agg #[.int .i64 y.dev, .int .i64 y.inc, .int .i64 y.seq]] w fun e w' => e = .returned (.bool (lessD x y)) ∧ Below w.heap.size w w' := by
  obtain ⟨o1, o2, hb⟩ := two_objs w #[.int .i64 x.dev, .int .i64 x.inc, .int .i64 x.seq] #[.int .i64 y.dev, .int .i64 y.inc, .int .i64 y.seq] 25 25
  have u0 := o1.cell 0 rfl; have u1 := o1.cell 1 rfl; have u2 := o1.cell 2 rfl
  have v0 := o2.cell 0 rfl; have v1 := o2.cell 1 rfl; have v2 := o2.cell 2 rfl
  have H1 := fun w => dotOrderG x y w
  have hneg := ord_neg x y
  generalize ordD x y = C at *
  rw [← hneg]
  clear hneg
  go_enter Tryd.func13, Tryd.ntmps13
  go_wp2_with (go_at_call 28; (with_reducible refine (H1 _).mono ?_); rintro e w1 ⟨rfl, hx⟩; have hb := hb.trans (hx.below.mono hb.size))
  go_ret
  exact ⟨rfl, hb⟩

theorem dotCompareC (d i e j : Int) (w : World) (hT : DTb w) :
    Calls Tryd.prog 15 #[.agg #[.int .i64 d, .int .i64 i], .agg #[.int .i64 e, .int .i64 j]] w fun en w' => en = .returned (.int .i64 (cmpA d i e j)) ∧ Below w.heap.size w w' :=
  (dotCompareG d i e j w).mono fun en w' h => ⟨by rw [h.1, cmpAG_is], h.2.below⟩

set_option maxRecDepth 100000 in
theorem dotNextC (x : DotN) (w : World) (hx : FitD x) (hT : DTb w) :
    Calls Tryd.prog 6 #[.agg #[.int .i64 x.dev, .int .i64 x.inc, .int .i64 x.seq]] w fun e w' => e = .returned (.tuple #[.agg #[.int .i64 (nextD x).1.dev, .int .i64 (nextD x).1.inc, .int .i64 (nextD x).1.seq], .int .i64 (nextD x).2]) ∧ Below w.heap.size w w' := by
  have hrr := fun h => right_range (x := x) h
  obtain ⟨dev, inc, seq⟩ := x
  obtain ⟨o1, z1, hb⟩ := two_objs w #[.int .i64 dev, .int .i64 inc, .int .i64 seq] #[.int .i64 0, .int .i64 0, .int .i64 0] 25 25
  have u0 := o1.cell 0 rfl; have u1 := o1.cell 1 rfl; have u2 := o1.cell 2 rfl
  have HR := fun v => dotRightC0 ⟨dev, inc, seq⟩ v
  unfold nextD
  cases hr : rightD ⟨dev, inc, seq⟩ with
  | false =>
    rw [hr] at HR
    rw [if_neg (fun c => absurd c.1 Bool.false_ne_true)]
    clear hrr hr
    go_enter Tryd.func6, Tryd.ntmps6
    go_wp2_with (go_at_call 10; (with_reducible refine (HR _).mono ?_); rintro e w1 ⟨rfl, hx⟩; have o2 := o1.below hx o1.lt; have z2 := z1.below hx z1.lt; have v0 := o2.cell 0 rfl; have v1 := o2.cell 1 rfl; have v2 := o2.cell 2 rfl; have g0 := z2.free 0; have g1 := z2.free 1; have g2 := z2.free 2; have y0 := z2.cell 0 rfl; have y1 := z2.cell 1 rfl; have y2 := z2.cell 2 rfl; have hb := hb.trans (hx.mono hb.size); clear hx)
    have o9 := ((z2.set 0 (.int .i64 0)).set 1 (.int .i64 0)).set 2 (.int .i64 0)
    have r0 := o9.cell 0 rfl; have r1 := o9.cell 1 rfl; have r2 := o9.cell 2 rfl
    exact bodyPost_ret (v := .tuple #[.agg #[.int .i64 0, .int .i64 0, .int .i64 0], .int .i64 4]) (by simp [results, Tryd.results6, go_sem, r0, r1, r2]) rfl ⟨rfl, ((hb.setCell (p := ⟨w.heap.size + 1, 0, none⟩) (Nat.le_succ _) (.int .i64 0)).setCell (p := ⟨w.heap.size + 1, 1, none⟩) (Nat.le_succ _) (.int .i64 0)).setCell (p := ⟨w.heap.size + 1, 2, none⟩) (Nat.le_succ _) (.int .i64 0)⟩
  | true =>
    obtain ⟨d0, d1, e0, e1, s0, s1⟩ := hrr hr
    dsimp only at s0 s1
    rw [hr] at HR
    clear hrr hr
    by_cases h : seq = 4294967296
    · have h1 : (seq == 4294967296) = true := by simp [h]
      rw [if_neg (fun c => by have := c.2; dsimp only at this; omega)]
      clear h d0 d1 e0 e1 s0 s1
      go_enter Tryd.func6, Tryd.ntmps6
      go_wp2_with (go_at_call 10; (with_reducible refine (HR _).mono ?_); rintro e w1 ⟨rfl, hx⟩; have o2 := o1.below hx o1.lt; have z2 := z1.below hx z1.lt; have v0 := o2.cell 0 rfl; have v1 := o2.cell 1 rfl; have v2 := o2.cell 2 rfl; have g0 := z2.free 0; have g1 := z2.free 1; have g2 := z2.free 2; have y0 := z2.cell 0 rfl; have y1 := z2.cell 1 rfl; have y2 := z2.cell 2 rfl; have hb := hb.trans (hx.mono hb.size); clear hx)
      have o9 := ((z2.set 0 (.int .i64 0)).set 1 (.int .i64 0)).set 2 (.int .i64 0)
      have r0 := o9.cell 0 rfl; have r1 := o9.cell 1 rfl; have r2 := o9.cell 2 rfl
      exact bodyPost_ret (v := .tuple #[.agg #[.int .i64 0, .int .i64 0, .int .i64 0], .int .i64 4]) (by simp [results, Tryd.results6, go_sem, r0, r1, r2]) rfl ⟨rfl, ((hb.setCell (p := ⟨w.heap.size + 1, 0, none⟩) (Nat.le_succ _) (.int .i64 0)).setCell (p := ⟨w.heap.size + 1, 1, none⟩) (Nat.le_succ _) (.int .i64 0)).setCell (p := ⟨w.heap.size + 1, 2, none⟩) (Nat.le_succ _) (.int .i64 0)⟩
    · have h1 : (seq == 4294967296) = false := beq_eq_false_iff_ne.2 h
      have hw : IntKind.i64.wrap (seq + 1) = seq + 1 := by rw [IntKind.wrap_i64]; omega
      rw [if_pos ⟨rfl, by dsimp only; omega⟩]
      clear h d0 d1 e0 e1 s0 s1
      go_enter Tryd.func6, Tryd.ntmps6
      go_wp2_with (go_at_call 10; (with_reducible refine (HR _).mono ?_); rintro e w1 ⟨rfl, hx⟩; have o2 := o1.below hx o1.lt; have z2 := z1.below hx z1.lt; have v0 := o2.cell 0 rfl; have v1 := o2.cell 1 rfl; have v2 := o2.cell 2 rfl; have g0 := z2.free 0; have g1 := z2.free 1; have g2 := z2.free 2; have y0 := z2.cell 0 rfl; have y1 := z2.cell 1 rfl; have y2 := z2.cell 2 rfl; have hb := hb.trans (hx.mono hb.size); clear hx)
      have o9 := ((z2.set 0 (.int .i64 dev)).set 1 (.int .i64 inc)).set 2 (.int .i64 (seq + 1))
      have r0 := o9.cell 0 rfl; have r1 := o9.cell 1 rfl; have r2 := o9.cell 2 rfl
      exact bodyPost_ret (v := .tuple #[.agg #[.int .i64 dev, .int .i64 inc, .int .i64 (seq + 1)], .int .i64 0]) (by simp [results, Tryd.results6, go_sem, r0, r1, r2]) rfl ⟨rfl, ((hb.setCell (p := ⟨w.heap.size + 1, 0, none⟩) (Nat.le_succ _) (.int .i64 dev)).setCell (p := ⟨w.heap.size + 1, 1, none⟩) (Nat.le_succ _) (.int .i64 inc)).setCell (p := ⟨w.heap.size + 1, 2, none⟩) (Nat.le_succ _) (.int .i64 (seq + 1))⟩

set_option maxRecDepth 100000 in
theorem dotTextC (x : DotN) (w : World) (hx : FitD x) (hT : DTb w) :
    Calls Tryd.prog 16 #[.agg #[.int .i64 x.dev, .int .i64 x.inc, .int .i64 x.seq]] w fun e w' => e = .returned (.string (str (textD x))) ∧ Below w.heap.size w w' := by
  obtain ⟨⟨a0, a1⟩, ⟨b0, b1⟩, ⟨c0, c1⟩⟩ := hx
  obtain ⟨dev, inc, seq⟩ := x
  dsimp only at *
  have o1 := ObjAt.new w #[.int .i64 dev, .int .i64 inc, .int .i64 seq] 25
  have hb := below_alloc w (.cells #[.int .i64 dev, .int .i64 inc, .int .i64 seq] 25)
  have hT := hT.below hb
  have HT1 := fun v t => textC dev v a0 a1 t
  have HT2 := fun v t => textC inc v b0 b1 t
  have HT3 := fun v t => textC seq v c0 c1 t
  have l1 := Lib.itoa_length_le dev a0 a1
  have l2 := Lib.itoa_length_le inc b0 b1
  have l3 := Lib.itoa_length_le seq c0 c1
  unfold textD
  dsimp only
  clear a0 a1 b0 b1 c0 c1
  generalize Lib.itoa dev = y1 at *
  generalize Lib.itoa inc = y2 at *
  generalize Lib.itoa seq = y3 at *
  obtain ⟨TX, hte⟩ : ∃ z, (((y1 ++ [46]) ++ y2) ++ [46]) ++ y3 = z := ⟨_, rfl⟩
  rw [hte]
  have ha1 : ∀ w, (Op.stringOp .add (str y1) ⟨#[46]⟩).run Tryd.prog w = .ok (.string (str (y1 ++ [46]))) w := fun w => run_add_str (P := Tryd.prog) w y1 [46] (by simp; omega)
  have ha2 := fun w => run_add_str (P := Tryd.prog) w (y1 ++ [46]) y2 (by simp; omega)
  have ha3 : ∀ w, (Op.stringOp .add (str ((y1 ++ [46]) ++ y2)) ⟨#[46]⟩).run Tryd.prog w = .ok (.string (str (((y1 ++ [46]) ++ y2) ++ [46]))) w := fun w => run_add_str (P := Tryd.prog) w ((y1 ++ [46]) ++ y2) [46] (by simp; omega)
  have ha4 := fun w => run_add_str (P := Tryd.prog) w (((y1 ++ [46]) ++ y2) ++ [46]) y3 (by simp; omega)
  obtain ⟨z1, e1⟩ : ∃ z, y1 ++ [46] = z := ⟨_, rfl⟩
  rw [e1] at ha1 ha2 ha3 ha4 hte
  obtain ⟨z2, e2⟩ : ∃ z, z1 ++ y2 = z := ⟨_, rfl⟩
  rw [e2] at ha2 ha3 ha4 hte
  obtain ⟨z3, e3⟩ : ∃ z, z2 ++ [46] = z := ⟨_, rfl⟩
  rw [e3] at ha3 ha4 hte
  rw [hte] at ha4
  clear hte l1 l2 l3 e1 e2 e3
  generalize hw0 : w.alloc (.cells #[.int .i64 dev, .int .i64 inc, .int .i64 seq] 25) = w0 at *
  have hlt1 := o1.lt
  have hB1 : Below w0.heap.size w0 w0.drew := (Below.refl _ w0).drew
  go_enter Tryd.func16, Tryd.ntmps16
  go_wp2_with fail
  go_region_held3 (fun w' => w'.cell? ⟨w.heap.size, 0, none⟩ = some (.int .i64 dev) ∧ w'.cell? ⟨w.heap.size, 1, none⟩ = some (.int .i64 inc) ∧ w'.cell? ⟨w.heap.size, 2, none⟩ = some (.int .i64 seq))
    (first | exact ⟨(o1.below hB1 hlt1).cell 0 rfl, (o1.below hB1 hlt1).cell 1 rfl, (o1.below hB1 hlt1).cell 2 rfl⟩)
    (first
      | (go_at_call 30; (with_reducible refine (HT1 _ (hT.below hB1)).mono ?_); rintro e w8 ⟨rfl, hx⟩; have hB1 := hB1.trans (hx.mono hB1.size); clear hx)
      | (go_at_call 30; (with_reducible refine (HT2 _ (hT.below hB1)).mono ?_); rintro e w8 ⟨rfl, hx⟩; have hB1 := hB1.trans (hx.mono hB1.size); clear hx)
      | (go_at_call 30; (with_reducible refine (HT3 _ (hT.below hB1)).mono ?_); rintro e w8 ⟨rfl, hx⟩; have hB1 := hB1.trans (hx.mono hB1.size); clear hx))
  all_goals (
    go_wp2
    go_ret
    exact ⟨rfl, hb.trans (hB1.mono hb.size)⟩)

set_option maxRecDepth 100000 in
theorem dotPutC (base p : Nat) (a : Option Addr) (l : List Int) (x : DotN) (w : World) (hw : Wr 5 base p a l w) (hlen : l.length ≤ 1000000000) (hbase : base ≤ w.heap.size) (hx : FitD x) (hT : DTb w) :
    Calls Tryd.prog 18 #[.pointer (some ⟨p, 0, none⟩), .agg #[.int .i64 x.dev, .int .i64 x.inc, .int .i64 x.seq]] w (PutGives base p a (l ++ putD x) w) := by
  have hrr := fun h => right_range (x := x) h
  obtain ⟨dev, inc, seq⟩ := x
  have o1 := ObjAt.new w #[.int .i64 dev, .int .i64 inc, .int .i64 seq] 25
  have b1 := below_alloc w (.cells #[.int .i64 dev, .int .i64 inc, .int .i64 seq] 25)
  have hlt1 := o1.lt
  have u0 := o1.cell 0 rfl; have u1 := o1.cell 1 rfl; have u2 := o1.cell 2 rfl
  have HR := fun v => dotRightC0 ⟨dev, inc, seq⟩ v
  unfold putD
  cases hr : rightD ⟨dev, inc, seq⟩ with
  | false =>
    rw [hr] at HR
    rw [if_neg Bool.false_ne_true, List.append_nil]
    clear hrr hr
    go_enter Tryd.func18, Tryd.ntmps18
    go_wp2_with (go_at_call 10; (with_reducible refine (HR _).mono ?_); rintro e w1 ⟨rfl, hx⟩; have hb := b1.trans (hx.mono b1.size))
    go_end0
    exact ⟨rfl, a, hw.below hb, Kept.of hb, Near.refl _ _⟩
  | true =>
    obtain ⟨d0, d1, e0, e1, s0, s1⟩ := hrr hr
    dsimp only at d0 d1 e0 e1 s0 s1
    rw [hr] at HR
    rw [if_pos rfl]
    clear hrr hr
    obtain ⟨D, rfl⟩ := Int.eq_ofNat_of_zero_le d0
    obtain ⟨I, rfl⟩ := Int.eq_ofNat_of_zero_le (show 0 ≤ inc by omega)
    obtain ⟨S, rfl⟩ := Int.eq_ofNat_of_zero_le (show 0 ≤ seq by omega)
    unfold bytesD
    dsimp only
    rw [Int.toNat_natCast, Int.toNat_natCast, Int.toNat_natCast, ← List.append_assoc, ← List.append_assoc]
    have t1 := short_ten D (by omega)
    have t2 := short_ten I (by omega)
    have q1 : IntKind.u64.wrap (D : Int) = (D : Int) := by rw [IntKind.wrap_u64]; omega
    have q2 : IntKind.u64.wrap (I : Int) = (I : Int) := by rw [IntKind.wrap_u64]; omega
    have q3 : IntKind.u64.wrap (S : Int) = (S : Int) := by rw [IntKind.wrap_u64]; omega
    have H1 := fun w hw hb => wNumC base p D a l w hw (by omega) hb (by omega)
    have H2 := fun a w hw hb => wNumC base p I a (l ++ short D) w hw (by rw [List.length_append]; omega) hb (by omega)
    have H3 := fun a w hw hb => wNumC base p S a (l ++ short D ++ short I) w hw (by rw [List.length_append, List.length_append]; omega) hb (by omega)
    generalize l ++ short D = l1 at *
    generalize l1 ++ short I = l2 at *
    generalize l2 ++ short S = l3 at *
    clear d0 d1 e0 e1 s0 s1 t1 t2 hlen
    have hpw := hw.lt.2
    have har := fun k h => (hw.at' k h).2.1
    have hw1 := hw.below b1
    go_enter Tryd.func18, Tryd.ntmps18
    go_wp2_with (go_at_call 10; (with_reducible refine (HR _).mono ?_); rintro e w2 ⟨rfl, hx2⟩; have o2 := o1.below hx2 hlt1; have hw2 := hw1.below hx2; have b2 := b1.trans (hx2.mono b1.size); have s2 := Nat.lt_of_lt_of_le hlt1 hx2.size; clear hx2)
    have bd : Below w2.heap.size w2 w2.drew := (Below.refl _ w2).drew
    have od := o2.below bd s2
    have hwd := hw2.below bd
    have b2d := b2.trans (bd.mono b2.size)
    have sd : w.heap.size < w2.drew.heap.size := Nat.lt_of_lt_of_le s2 bd.size
    go_region_held3 (fun w' => w'.cell? ⟨w.heap.size, 0, none⟩ = some (.int .i64 (D : Int)) ∧ w'.cell? ⟨w.heap.size, 1, none⟩ = some (.int .i64 (I : Int)) ∧ w'.cell? ⟨w.heap.size, 2, none⟩ = some (.int .i64 (S : Int)))
      (first | exact ⟨o5.cell 0 rfl, o5.cell 1 rfl, o5.cell 2 rfl⟩ | exact ⟨o4.cell 0 rfl, o4.cell 1 rfl, o4.cell 2 rfl⟩ | exact ⟨o3.cell 0 rfl, o3.cell 1 rfl, o3.cell 2 rfl⟩ | exact ⟨od.cell 0 rfl, od.cell 1 rfl, od.cell 2 rfl⟩)
      (first
        | (go_at_call 31; (with_reducible refine (H1 _ hwd (Nat.le_trans hbase b2d.size)).mono ?_); rintro e w3 ⟨rfl, a3, hw3, k3, n3⟩; have o3 := od.keeps (Keeps.ofKept k3) (fun h => h.elim (fun e => by omega) (fun h => by have := har _ h; omega)); have K3 := (Kept.of b2d (p := p) (a := a)).trans (Near.refl _ _) k3; have N3 := n3.early b2d.size; have ap3 : ¬ At a3 w.heap.size := (apart_iff.1 (n3 _ sd (apart_iff.2 (fun h => by have := har _ h; omega)))); have sd3 := Nat.lt_of_lt_of_le sd k3.size; have hb3 := Nat.le_trans hbase K3.size)
        | (go_at_call 31; (with_reducible refine (H2 _ _ hw3 hb3).mono ?_); rintro e w4 ⟨rfl, a4, hw4, k4, n4⟩; have o4 := o3.keeps (Keeps.ofKept k4) (fun h => h.elim (fun e => by omega) ap3); have K4 := K3.trans N3 k4; have N4 := N3.trans n4 K3.size; have ap4 : ¬ At a4 w.heap.size := (apart_iff.1 (n4 _ sd3 (apart_iff.2 ap3))); have hb4 := Nat.le_trans hbase K4.size)
        | (go_at_call 31; (with_reducible refine (H3 _ _ hw4 hb4).mono ?_); rintro e w5 ⟨rfl, a5, hw5, k5, n5⟩; have o5 := o4.keeps (Keeps.ofKept k5) (fun h => h.elim (fun e => by omega) ap4); have K5 := K4.trans N4 k5; have N5 := N4.trans n5 K4.size))
    all_goals (
      go_wp2
      go_end0
      exact ⟨rfl, a5, hw5, K5, N5⟩)

set_option maxRecDepth 100000 in
theorem dotGetIn (F : Nat → Prop) (p : Nat) (x : DotN) (r l : List Int) (w : World) (hr : RdIn F p l w) (hF : ∀ k, F k → k < w.heap.size) (hl : bytesD x ++ r = l) (hb : IsBytes l) (hx : rightD x = true) :
    Calls Tryd.prog 23 #[.pointer (some ⟨p, 0, none⟩)] w (RdInGives F p (.agg #[.int .i64 x.dev, .int .i64 x.inc, .int .i64 x.seq]) r w) := by
  obtain ⟨d0, d1, e0, e1, s0, s1⟩ := right_range hx
  obtain ⟨dev, inc, seq⟩ := x
  dsimp only at d0 d1 e0 e1 s0 s1
  obtain ⟨D, rfl⟩ := Int.eq_ofNat_of_zero_le d0
  obtain ⟨I, rfl⟩ := Int.eq_ofNat_of_zero_le (show 0 ≤ inc by omega)
  obtain ⟨S, rfl⟩ := Int.eq_ofNat_of_zero_le (show 0 ≤ seq by omega)
  have HR := fun v => dotRightC0 ⟨(D : Int), (I : Int), (S : Int)⟩ v
  rw [hx] at HR
  unfold bytesD at hl
  dsimp only at *
  rw [Int.toNat_natCast, Int.toNat_natCast, Int.toNat_natCast, List.append_assoc, List.append_assoc] at hl
  have hb1 : IsBytes (short I ++ (short S ++ r)) := fun y hy => hb y (hl ▸ List.mem_append_right _ hy)
  have hb2 : IsBytes (short S ++ r) := fun y hy => hb1 y (List.mem_append_right _ hy)
  have q1 : IntKind.i64.wrap (D : Int) = (D : Int) := by rw [IntKind.wrap_i64]; omega
  have q2 : IntKind.i64.wrap (I : Int) = (I : Int) := by rw [IntKind.wrap_i64]; omega
  have q3 : IntKind.i64.wrap (S : Int) = (S : Int) := by rw [IntKind.wrap_i64]; omega
  have H1 := fun w hr => rNumIn F p D _ l 63 w hr hl hb (by omega) (by omega)
  have H2 := fun w hr => rNumIn F p I _ _ 1048576 w hr rfl hb1 (by omega) (by omega)
  have H3 := fun w hr => rNumIn F p S r _ 4294967296 w hr rfl hb2 (by omega) (by omega)
  generalize short S ++ r = l2 at *
  generalize short I ++ l2 = l1 at *
  clear hl hb hb1 hb2 d0 d1 e0 e1 s0 s1 hx
  have hpw := hr.lt
  have z0 := ObjAt.new w #[.int .i64 0, .int .i64 0, .int .i64 0] 25
  have b0 := below_alloc w (.cells #[.int .i64 0, .int .i64 0, .int .i64 0] 25)
  have zl := z0.lt
  have hr0 := hr.below b0
  go_enter Tryd.func23, Tryd.ntmps23
  go_wp2_with (first
    | (go_at_call 34; (with_reducible refine (H1 _ hr0).mono ?_); rintro e w1 ⟨rfl, hr1, k1⟩; have z1 := z0.keeps (Keeps.ofKept k1) (fun h => h.elim (fun e => by omega) (fun h => at_none _ h)); have K1 := (Kept.of b0 (p := p) (a := none)).trans (Near.refl _ _) k1)
    | (go_at_call 34; (with_reducible refine (H2 _ hr1).mono ?_); rintro e w2 ⟨rfl, hr2, k2⟩; have z2 := z1.keeps (Keeps.ofKept k2) (fun h => h.elim (fun e => by omega) (fun h => at_none _ h)); have K2 := K1.trans (Near.refl _ _) k2)
    | (go_at_call 34; (with_reducible refine (H3 _ hr2).mono ?_); rintro e w3 ⟨rfl, hr3, k3⟩; have z3 := z2.keeps (Keeps.ofKept k3) (fun h => h.elim (fun e => by omega) (fun h => at_none _ h)); have K3 := K2.trans (Near.refl _ _) k3; have o3 := ObjAt.new w3 #[.int .i64 (D : Int), .int .i64 (I : Int), .int .i64 (S : Int)] 25; have b3 := below_alloc w3 (.cells #[.int .i64 (D : Int), .int .i64 (I : Int), .int .i64 (S : Int)] 25); have z4 := z3.below b3 z3.lt; have u0 := o3.cell 0 rfl; have u1 := o3.cell 1 rfl; have u2 := o3.cell 2 rfl)
    | (go_at_call 10; (with_reducible refine (HR _).mono ?_); rintro e w4 ⟨rfl, hx⟩; have b4 := b3.trans (hx.mono b3.size); have o4 := o3.below hx o3.lt; have z5 := z4.below hx z4.lt; have v0 := o4.cell 0 rfl; have v1 := o4.cell 1 rfl; have v2 := o4.cell 2 rfl; have g0 := z5.free 0; have g1 := z5.free 1; have g2 := z5.free 2; have y0 := z5.cell 0 rfl; have y1 := z5.cell 1 rfl; have y2 := z5.cell 2 rfl; have hr4 := hr3.below b4; have K4 := K3.trans (Near.refl _ _) (Kept.of b4 (p := p) (a := none))))
  have o9 := ((z5.set 0 (.int .i64 (D : Int))).set 1 (.int .i64 (I : Int))).set 2 (.int .i64 (S : Int))
  have r0 := o9.cell 0 rfl; have r1 := o9.cell 1 rfl; have r2 := o9.cell 2 rfl
  have hne : w.heap.size ≠ p := by omega
  have hnF : ¬ F w.heap.size := fun h => absurd (hF _ h) (Nat.lt_irrefl _)
  have hr5 := ((hr4.other (x := ⟨w.heap.size, 0, none⟩) hne hnF (.int .i64 (D : Int))).other (x := ⟨w.heap.size, 1, none⟩) hne hnF (.int .i64 (I : Int))).other (x := ⟨w.heap.size, 2, none⟩) hne hnF (.int .i64 (S : Int))
  have K5 : Kept p none w (((w4.setCell ⟨w.heap.size, 0, none⟩ (.int .i64 (D : Int))).setCell ⟨w.heap.size, 1, none⟩ (.int .i64 (I : Int))).setCell ⟨w.heap.size, 2, none⟩ (.int .i64 (S : Int))) :=
    ⟨K4.os, K4.tape, K4.output, by simpa using K4.size, fun k hk h1 h2 => by
      have hkk : k ≠ w.heap.size := by omega
      rw [Below.heap_setCell _ _ _ _ hkk, Below.heap_setCell _ _ _ _ hkk, Below.heap_setCell _ _ _ _ hkk]
      exact K4.block k hk h1 h2⟩
  refine bodyPost_ret (v := .agg #[.int .i64 (D : Int), .int .i64 (I : Int), .int .i64 (S : Int)]) (by simp [results, Tryd.results23, go_sem, r0, r1, r2]) rfl ⟨rfl, ?_, ?_⟩
  · exact hr5
  · exact K5

theorem dotGetC (p : Nat) (x : DotN) (r l : List Int) (w : World) (hr : Rd p l w) (hl : bytesD x ++ r = l) (hb : IsBytes l) (hx : rightD x = true) (hT : DTb w) :
    Calls Tryd.prog 23 #[.pointer (some ⟨p, 0, none⟩)] w (RdGives p (.agg #[.int .i64 x.dev, .int .i64 x.inc, .int .i64 x.seq]) r w) :=
  (dotGetIn _ p x r l w hr.inside (fun _ h => h) hl hb hx).mono fun _ _ h => h.rd
end Go.Proofs.YtcfeokdhiihkdaaDoor

/- The example that each law of layer 16 asks for. -/
namespace Go.Proofs.YtcfeokdhiihkdaaDoor
open Go.RowKit
set_option linter.unusedVariables false

set_option maxRecDepth 100000 in
theorem awake16C (w : World) (hT : DTb w) : Calls Tryd.prog 17 #[] w fun e w' => e = .returned (.bool true) ∧ Below w.heap.size w w' := by
  have hfit : FitD ⟨3, 1, 7⟩ := ⟨by unfold is64; decide, by unfold is64; decide, by unfold is64; decide⟩
  have HT := fun v t => dotTextC ⟨3, 1, 7⟩ v hfit t
  have HR := fun v t => dotRightC ⟨3, 1, 7⟩ v t
  have et : textD ⟨3, 1, 7⟩ = [51, 46, 49, 46, 55] := by decide +kernel
  have er : rightD ⟨3, 1, 7⟩ = true := by decide +kernel
  have ep : putD ⟨3, 1, 7⟩ = [3, 1, 7] := by
    unfold putD
    rw [if_pos er]
    unfold bytesD
    dsimp only
    rw [short_lt _ (by decide), short_lt _ (by decide), short_lt _ (by decide)]
    rfl
  rw [et] at HT
  rw [er] at HR
  have hk := str_toList
  have o1 := ObjAt.new w #[.int .i64 3, .int .i64 1, .int .i64 7] 25
  have b1 := below_alloc w (.cells #[.int .i64 3, .int .i64 1, .int .i64 7] 25)
  have hlt1 := o1.lt
  generalize hw1 : w.alloc (.cells #[.int .i64 3, .int .i64 1, .int .i64 7] 25) = w1 at *
  have hw0 := wr_new w1 5 41
  have b2 := below_alloc w1 (.cells #[.slice none 0 0] 41)
  have o2 := o1.below b2 o1.lt
  have hb2 := b1.trans (b2.mono b1.size)
  have hs2 : w1.heap.size < (w1.alloc (.cells #[.slice none 0 0] 41)).heap.size := by simp
  have HP := fun v hw hbs t => dotPutC w1.heap.size w1.heap.size none [] ⟨3, 1, 7⟩ v hw (by simp) hbs hfit t
  rw [ep, List.nil_append] at HP
  have HB := fun a v hw => wBytesC w1.heap.size w1.heap.size a [3, 1, 7] 3 v hw rfl (by decide)
  have u0 := o2.cell 0 rfl; have u1 := o2.cell 1 rfl; have u2 := o2.cell 2 rfl
  have hT2 := hT.below hb2
  clear et er ep
  go_enter Tryd.func17, Tryd.ntmps17
  go_wp2_with (first
    | (go_at_call 18; (with_reducible refine (HP _ hw0 b2.size hT2).mono ?_); rintro e w3 ⟨rfl, a3, hw3, hk3, hn3⟩; have k3 := Keeps.ofKept hk3; have o3 := o2.keeps k3 (fun h => h.elim (fun e => by omega) (fun h => at_none _ h)); have hb3 := hb2.trans ((k3.below (B := w1.heap.size) b2.size (fun i _ h2 => h2.elim (fun e => by omega) (fun h => absurd h (at_none _)))).mono b1.size); have hT3 := hT.below hb3; have v0 := o3.cell 0 rfl; have v1 := o3.cell 1 rfl; have v2 := o3.cell 2 rfl)
    | (go_at_call 16; (with_reducible refine (HT _ hT3).mono ?_); rintro e w4 ⟨rfl, hx4⟩; have o4 := o3.below hx4 o3.lt; have hw4 := hw3.below hx4; have hb4 := hb3.trans (hx4.mono hb3.size); have hT4 := hT.below hb4; have x0 := o4.cell 0 rfl; have x1 := o4.cell 1 rfl; have x2 := o4.cell 2 rfl)
    | (go_at_call 10; (with_reducible refine (HR _ hT4).mono ?_); rintro e w5 ⟨rfl, hx5⟩; have hw5 := hw4.below hx5; have hb5 := hb4.trans (hx5.mono hb4.size))
    | (go_at_call 20; (with_reducible refine (HB _ _ hw5).mono ?_); rintro e w6 ⟨a6, c6, rfl, ho6, hx6⟩; have hb6 := hb5.trans (hx6.mono hb5.size)))
  go_ret
  exact ⟨rfl, hb6⟩
end Go.Proofs.YtcfeokdhiihkdaaDoor

/- Layer 16's laws, walked: dots, packed and got again. -/
namespace Go.Proofs.YtcfeokdhiihkdaaDoor
open Go.RowKit
set_option linter.unusedVariables false

set_option maxHeartbeats 4000000 in
set_option maxRecDepth 100000 in
theorem dotPacks_walk (a0 : Option Addr) (n c : Nat) (M : List DotN) (w : World) (hM : RowOf encD 3 w a0 n c M) (hF : ∀ x ∈ M, FitD x) (hT : DTb w) :
    Calls Tryd.prog 4 #[.slice a0 n c] w fun e w' => e = .returned (.bool true) ∧ Below w.heap.size w w' := by
  have hcm := hM.capm
  have hcl := hM.cle
  unfold maxLen at hcm
  by_cases h1 : 100 < n
  · have h1' : (100 : Int) < (n : Int) := by omega
    go_enter Tryd.func4, Tryd.ntmps4
    go_wp2_with (go_at_call 17; (with_reducible refine (awake16C _ hT).mono ?_); rintro e w2 ⟨rfl, hx⟩)
    go_ret
    exact ⟨rfl, hx⟩
  have h1' : ¬ (100 : Int) < (n : Int) := by omega
  obtain ⟨i0, hi, hz0, hz1, hz2⟩ := info_parts info8
  obtain ⟨j0, gi, gz0, gz1, gz2⟩ := info_parts infoDot
  have hw0 := wr_new w 5 41
  have hb0 := below_alloc w (.cells #[.slice none 0 0] 41)
  generalize hw1 : w.alloc (.cells #[.slice none 0 0] 41) = w1 at hw0 hb0
  have ho1 := (owned_lit w1 5).base hb0.size
  have hb1 := below_alloc w1 (.cells #[] 5)
  have hlt1 : w1.heap.size < (w1.alloc (.cells #[] 5)).heap.size := by simp
  generalize hw2 : w1.alloc (.cells #[] 5) = w2 at ho1 hb1 hlt1
  have hz2' := (OwnZ.lit encD 3 25 w2).base (Nat.le_trans hb0.size hb1.size)
  have hb2 := below_alloc w2 (.cells #[] 25)
  have hb02 := (hb0.trans (hb1.mono hb0.size)).trans (hb2.mono (Nat.le_trans hb0.size hb1.size))
  have hwN := (hw0.below hb1).below hb2
  have hoN := ho1.below hb2 (Nat.le_refl _)
  have hplt := hw0.lt.2
  have hleq := hM.leq
  go_enter Tryd.func4, Tryd.ntmps4
  go_wp2
  go_loopw [4, 5, 6] (fun v t i wr => ∃ (k L c2 m c3 : Nat) (a q r : Option Addr) (l : List Int) (R : List DotN), k ≤ n ∧ L ≤ 30 * k ∧ m ≤ k ∧ i = .int .i64 (k : Int) ∧ v = .slice q L c2 ∧ t = .slice r m c3 ∧ Hid (l.length = L) ∧ Hid (putDs (M.take k) = l) ∧ Hid ((M.take k).filter rightD = R) ∧ Wr 5 w.heap.size w.heap.size a l wr ∧ Owned w.heap.size 5 q L c2 (l.map (Value.int .u8)) wr ∧ OwnZ encD 3 w.heap.size 25 r m c3 R wr ∧ Off q (some ⟨w.heap.size, 0, none⟩) ∧ Off r (some ⟨w.heap.size, 0, none⟩) ∧ Off q a ∧ Off r a ∧ Off q r ∧ Below w.heap.size w wr) (fun _ _ i _ => n - (intOf i).toNat)
  case atStart => exact ⟨0, 0, 0, 0, 0, none, _, _, [], [], Nat.zero_le _, Nat.zero_le _, Nat.zero_le _, rfl, rfl, rfl, rfl, rfl, rfl, hwN, hoN, hz2', Off.of_apart (fun x hx => by cases hx; show w1.heap.size ≠ _; omega) _, Off.of_apart (fun x hx => by cases hx; show w2.heap.size ≠ _; omega) _, off_none' _, off_none' _, (fun k h1 h2 => by have e1 : w1.heap.size = k := at_some.1 h1; have e2 : w2.heap.size = k := at_some.1 h2; omega), hb02⟩
  case round =>
    clear hwN hoN hz2' hb02 hb2 hb1 ho1 hw0 hb0 hlt1
    obtain ⟨k, L, c2, m, c3, a, q, r, l, R, hk, hL, hm, rfl, rfl, rfl, HL, HP, HR, hwr, ho, hz, hqp, hrp, hqa, hra, hqr, hb⟩ := hrel
    by_cases hlt : k < n
    · have hlt' : (k : Int) < (n : Int) := by omega
      obtain ⟨x, g, off, hxk, rfl, _, _, _⟩ := dot_at hM k hlt
      have hC : ∀ v, Below w.heap.size w v → v.cell? ⟨g, off + k * 3, none⟩ = some (.int .i64 x.dev) ∧ v.cell? ⟨g, off + k * 3 + 1, none⟩ = some (.int .i64 x.inc) ∧ v.cell? ⟨g, off + k * 3 + 2, none⟩ = some (.int .i64 x.seq) := fun v hv => by
        obtain ⟨x', g', off', e1, e2, e3⟩ := dot_at (hM.below hv) k hlt
        rw [hxk] at e1
        cases e1
        cases e2
        exact e3
      obtain ⟨u0, u1, u2⟩ := hC _ hb
      have hfx : FitD x := hF x (List.mem_of_getElem? hxk)
      obtain ⟨s1, s2⟩ := filter_snocD hxk
      rw [HR.out] at s1
      rw [HP.out] at s2
      have S1 := Lib.hid s1
      have S2 := Lib.hid s2
      clear s1 s2 hxk
      have hpl := putD_len x
      have HPUT := fun v hw hbs t => dotPutC w.heap.size w.heap.size a l x v hw (by rw [HL.out]; omega) hbs hfx t
      have HRI := fun v => refDRightC x v
      cases hrx : rightD x with
      | false =>
        have ey : putD x = [] := by unfold putD; rw [hrx]; rfl
        simp only [ey, List.append_nil] at HPUT S2
        simp only [hrx] at HRI S1
        have S1 := Lib.hid (S1.out.trans (by rw [if_neg Bool.false_ne_true, List.append_nil]))
        clear ey hpl hrx
        go_wp2_with (first
          | (go_at_call 18; (with_reducible refine (HPUT _ hwr hb.size (hT.below hb)).mono ?_); rintro e w3 ⟨rfl, a3, hw3, hk3, hn3⟩; have k3 := Keeps.ofKept hk3; have ho3 := ho.keeps k3 (fun i h1 h2 => h2.elim (fun e => hqp i h1 (at_some.2 e.symm)) (hqa i h1)); have hz3 := hz.keeps k3 (fun i h1 h2 => h2.elim (fun e => hrp i h1 (at_some.2 e.symm)) (hra i h1)); have hb3 := hb.trans (k3.below hb.size (fun i _ h2 => h2.elim (fun e => by omega) (fun h => (hwr.at' i h).1))); have hqa3 := (hqa.symm.near hn3 (fun i h => (ho.at' i h).2)).symm; have hra3 := (hra.symm.near hn3 (fun i h => (hz.lt' i h).2)).symm; obtain ⟨v0, v1, v2⟩ := hC _ hb3; clear k3 hk3 hn3)
          | (go_at_call 7; (with_reducible refine (HRI _).mono ?_); rintro e w4 ⟨rfl, hx4⟩; have hw4 := hw3.below hx4; have ho4 := ho3.below hx4 (Nat.le_refl _); have hz4 := hz3.below hx4 (Nat.le_refl _); have hb4 := hb3.trans (hx4.mono hb3.size); clear hx4))
        go_roundw
        case rel => exact ⟨k + 1, L, c2, m, c3, a3, q, r, l, R, by omega, by omega, by omega, by go_num, rfl, rfl, HL, S2, S1, hw4, ho4, hz4, hqp, hrp, hqa3, hra3, hqr, hb4⟩
        case measure => simp [intOf]; omega
      | true =>
        have ey : putD x = bytesD x := by unfold putD; rw [hrx]; rfl
        rw [ey] at hpl
        simp only [ey] at HPUT S2
        simp only [hrx] at HRI S1
        have S1 := Lib.hid (S1.out.trans (by rw [if_pos trivial]))
        have HRP := fun v => refDPutC x _ v hrx rfl
        obtain ⟨d, hd⟩ : ∃ d, (bytesD x).length = d := ⟨_, rfl⟩
        rw [hd] at hpl HRP
        generalize bytesD x = y at *
        have HD := Lib.hid hd
        clear ey hrx hd
        go_wp2_with (first
          | (go_at_call 18; (with_reducible refine (HPUT _ hwr hb.size (hT.below hb)).mono ?_); rintro e w3 ⟨rfl, a3, hw3, hk3, hn3⟩; have k3 := Keeps.ofKept hk3; have ho3 := ho.keeps k3 (fun i h1 h2 => h2.elim (fun e => hqp i h1 (at_some.2 e.symm)) (hqa i h1)); have hz3 := hz.keeps k3 (fun i h1 h2 => h2.elim (fun e => hrp i h1 (at_some.2 e.symm)) (hra i h1)); have hb3 := hb.trans (k3.below hb.size (fun i _ h2 => h2.elim (fun e => by omega) (fun h => (hwr.at' i h).1))); have hqa3 := (hqa.symm.near hn3 (fun i h => (ho.at' i h).2)).symm; have hra3 := (hra.symm.near hn3 (fun i h => (hz.lt' i h).2)).symm; obtain ⟨v0, v1, v2⟩ := hC _ hb3; clear k3 hk3 hn3)
          | (go_at_call 7; (with_reducible refine (HRI _).mono ?_); rintro e w4 ⟨rfl, hx4⟩; have hw4 := hw3.below hx4; have ho4 := ho3.below hx4 (Nat.le_refl _); have hz4 := hz3.below hx4 (Nat.le_refl _); have hb4 := hb3.trans (hx4.mono hb3.size); obtain ⟨z0, z1, z2⟩ := hC _ hb4; clear hx4)
          | (go_at_call 19; (with_reducible refine (HRP _).mono ?_); rintro e w5 ⟨a5, c5, rfl, ho5, hx5⟩; have hw5 := hw4.below hx5; have hq5 := ho4.below hx5 (Nat.le_refl _); have hz5 := hz4.below hx5 (Nat.le_refl _); have hb5 := hb4.trans (hx5.mono hb4.size); clear hx5)
          | (at_builtin; refine wpList_append_where rfl (.tmp 34) (.tmp 39) 39 rfl 5 i0 (.int .u8 0) 1 Tryd.underlying39 hi hz0 hz1 hz2 rfl hq5 rfl ho5.reads rfl (by rw [List.length_map, HD.out]) ho5.nil0 (bytes_one y .u8) (L + d) rfl (by unfold maxLen; omega) (by omega) hb5.size ?_; intro q6 c6 w6 ho6 hx6 hg6 hn6; have k6 := Keeps.ofGrown hx6 hg6; have hw6 := hw5.keeps k6 (fun h => hqp _ h (at_some.2 rfl)) (fun i h1 h2 => hqa3 i h2 h1); have hz6 := hz5.keeps k6 (fun i h1 h2 => hqr i h2 h1); have hb6 := hb5.trans hx6; have hqp6 := hqp.moved hn6 (fun i h => by have e : w.heap.size = i := at_some.1 h; have := hw5.lt.2; omega); have hqa6 := hqa3.moved hn6 (fun i h => (hw5.at' i h).2.1); have hqr6 := hqr.moved hn6 (fun i h => (hz5.lt' i h).2); obtain ⟨t0, t1, t2⟩ := hC _ hb6)
          | (at_builtin; refine wpList_append_row1 encD_len (by decide) encD_one rfl (.tmp 41) (.tmp 46) 37 rfl 25 j0 (.agg #[.int .i64 0, .int .i64 0, .int .i64 0]) 24 Tryd.underlying37 gi gz0 gz1 gz2 rfl hz6 rfl x rfl rfl (m + 1) rfl (by unfold maxLen; omega) (by omega) hb6.size ?_; intro r8 c8 w8 hz8 hx8 hg8 hn8; have k8 := Keeps.ofGrown hx8 hg8; have hw8 := hw6.keeps k8 (fun h => hrp _ h (at_some.2 rfl)) (fun i h1 h2 => hra3 i h2 h1); have ho8 := ho6.keeps k8 (fun i h1 h2 => hqr6 i h1 h2); have hb8 := hb6.trans hx8; have hrp8 := hrp.moved hn8 (fun i h => by have e : w.heap.size = i := at_some.1 h; have := hw6.lt.2; omega); have hra8 := hra3.moved hn8 (fun i h => (hw6.at' i h).2.1); have hqr8 := (hqr6.symm.moved hn8 (fun i h => (ho6.at' i h).2)).symm))
        go_roundw
        case rel => exact ⟨k + 1, L + d, c6, m + 1, c8, a3, q6, r8, l ++ y, R ++ [x], by omega, by omega, by omega, by go_num, rfl, rfl, Lib.hid (by rw [List.length_append, HL.out, HD.out]), S2, S1, hw8, by rw [List.map_append]; exact ho8, hz8, hqp6, hrp8, hqa6, hra8, hqr8, hb8⟩
        case measure => simp [intOf]; omega
    · obtain rfl : k = n := by omega
      have e1 : M.take k = M := List.take_of_length_le (by rw [hleq]; exact Nat.le_refl _)
      have hRl : R.length = m := hz.2.1
      have hRr : ∀ x ∈ R, rightD x = true := by rw [← HR.out]; intro x hx; exact (List.mem_filter.1 hx).2
      have hRp : putDs R = l := by rw [← HR.out, e1, putDs_right, ← HP.out, e1]
      have HBY := fun v hw => wBytesC w.heap.size w.heap.size a l L v hw HL.out (by omega)
      have HSAME := fun a b c d v ha hb => sameO l L HL.out a b c d v ha hb (by unfold maxLen; omega)
      have HRD := fun a c v ha hc hm h0 hlt => readC l a L c v ha HL.out hc hm h0 hlt
      clear HP HR e1 hi hz0 hz1 hz2 gi gz0 gz1 gz2
      go_wp2_with (first
        | (go_at_call 20; (with_reducible refine (HBY _ hwr).mono ?_); rintro e w3 ⟨a7, c7, rfl, ho7, hx7⟩; have ho3 := ho.below hx7 (Nat.le_refl _); have hz3 := hz.below hx7 (Nat.le_refl _); have hb3 := hb.trans (hx7.mono hb.size))
        | (go_at_call 21; (with_reducible refine (HSAME _ _ _ _ _ ho7.reads ho3.reads).mono ?_); rintro e w4 ⟨rfl, q4, rfl⟩; have hx4 := drawn_below (Below.refl w3.heap.size w3) q4; have ho8 := ho7.below hx4 (Nat.le_refl _); have hz4 := hz3.below hx4 (Nat.le_refl _); have hb4 := hb3.trans (hx4.mono hb3.size))
        | (go_at_call 22; (with_reducible refine (HRD _ _ _ ho8.reads ho8.le ho8.capm ho8.nil0 (fun x hx => (ho8.lt' x hx).2)).mono ?_); rintro e w5 ⟨rfl, hrd5, hx5⟩; have hz5 := hz4.below hx5 (Nat.le_refl _); have hb5 := hb4.trans (hx5.mono hb4.size)))
      have hrd5 : Rd w3.heap.size l w5 := hrd5
      have hrlt : ∀ i, At r i → i < w3.heap.size := fun i h => (hz3.lt' i h).2
      have hbp := hb3.size
      clear HBY HSAME HRD ho7 ho3 ho8 hz3 hz4 hx4 hx5 hx7 hwr ho hz hqp hrp hqa hra hqr hb hb3 hb4
      generalize w3.heap.size = rp at *
      rw [← hRp] at hrd5
      go_loopw [9] (fun i wr => ∃ (j : Nat), j ≤ m ∧ i = .int .i64 (j : Int) ∧ Rd rp (putDs (R.drop j)) wr ∧ Keeps (fun k => k = rp) w5 wr) (fun i _ => m - (intOf i).toNat)
      case atStart => exact ⟨0, Nat.zero_le _, rfl, hrd5, Keeps.refl _ _⟩
      case round =>
        clear hrd5
        obtain ⟨j, hj, rfl, hrd, hkp⟩ := hrel
        have hzr := hz5.keeps hkp (fun i h e => by have := hrlt i h; omega)
        have hbw := hb5.trans (hkp.below (B := w.heap.size) hb5.size (fun i _ e => by omega))
        by_cases hlt2 : j < m
        · have hlt' : (j : Int) < (m : Int) := by omega
          obtain ⟨x, g, off, hxj, rfl, p0, p1, p2⟩ := dot_at (hzr.row encD_len) j hlt2
          have hxr := hRr x (List.mem_of_getElem? hxj)
          have hrest := putDs_drop hxj
          have ey : putD x = bytesD x := by unfold putD; rw [hxr]; rfl
          rw [ey] at hrest
          have hib := putDs_bytes (R.drop j)
          have hgr : g ≠ rp := fun e => by have := hrlt g (at_some.2 rfl); omega
          obtain ⟨rest, hrs⟩ : ∃ rest, putDs (R.drop (j + 1)) = rest := ⟨_, rfl⟩
          rw [hrs] at hrest
          have HRS := Lib.hid hrs
          generalize putDs (R.drop j) = l0 at *
          have HG := fun ww (e : ww.heap = wr.heap) t => dotGetC rp x rest l0 ww (hrd.heap e) hrest.symm hib hxr t
          have HE := fun v => eqDot x x v
          simp only [show sameD x x = true from sameD_iff.2 rfl] at HE
          have hTw := hT.below hbw.drew
          clear hrest hib hxr ey hrs hxj hz5
          go_wp2_with fail
          go_region_law ((try go_simp); go_at_call 23; (refine (HG wr.drew rfl hTw).mono ?_); rintro e w6 ⟨rfl, hrd6, hk6⟩; have f0 := hk6.cell (x := ⟨g, off + j * 3, none⟩) (by simpa using p0) hgr (Apart.none _); have f1 := hk6.cell (x := ⟨g, off + j * 3 + 1, none⟩) (by simpa using p1) hgr (Apart.none _); have f2 := hk6.cell (x := ⟨g, off + j * 3 + 2, none⟩) (by simpa using p2) hgr (Apart.none _))
          all_goals
            have hk7 : Keeps (fun k => k = rp) w5 w6 := hkp.trans ⟨hk6.os, hk6.tape, hk6.output, hk6.size, fun k h1 h2 => hk6.block k h1 h2 (Apart.none _)⟩ (fun _ _ h => h)
            go_wp2
            go_roundw
            case rel => exact ⟨j + 1, by omega, by go_num, by rw [HRS.out]; exact hrd6, hk7⟩
            case measure => simp [intOf]; omega
        · obtain rfl : j = m := by omega
          have e2 : R.drop j = [] := List.drop_of_length_le (by rw [hRl]; exact Nat.le_refl _)
          rw [e2] at hrd
          have hrd : Rd rp [] wr := hrd
          have HEND := fun v (h : Rd rp [] v) => rEndC rp v h
          have hTw := hT.below hbw
          go_wp2_with (first
            | (go_at_call 24; (with_reducible refine (HEND _ hrd).mono ?_); rintro e w6 ⟨rfl, rfl⟩)
            | (go_at_call 17; (with_reducible refine (awake16C _ hTw).mono ?_); rintro e w7 ⟨rfl, hx⟩; have hb7 := hbw.trans (hx.mono hbw.size)))
          go_ret
          exact ⟨rfl, hb7⟩
end Go.Proofs.YtcfeokdhiihkdaaDoor

/- Layer 16's laws, walked: dots in order. -/
namespace Go.Proofs.YtcfeokdhiihkdaaDoor
open Go.RowKit
set_option linter.unusedVariables false

set_option maxHeartbeats 2000000 in
set_option maxRecDepth 100000 in
theorem dotSorts_walk (a : Option Addr) (n c : Nat) (L : List DotN) (w : World) (hL : RowOf encD 3 w a n c L) (hF : ∀ x ∈ L, FitD x) (hT : DTb w) :
    Calls Tryd.prog 5 #[.slice a n c] w fun e w' => e = .returned (.bool true) ∧ Below w.heap.size w w' := by
  have hcm := hL.capm
  have hcl := hL.cle
  unfold maxLen at hcm
  by_cases h1 : 100 < n
  · have h1' : (100 : Int) < (n : Int) := by omega
    go_enter Tryd.func5, Tryd.ntmps5
    go_wp2_with (go_at_call 17; (with_reducible refine (awake16C _ hT).mono ?_); rintro e w2 ⟨rfl, hx⟩)
    go_ret
    exact ⟨rfl, hx⟩
  have h1' : ¬ (100 : Int) < (n : Int) := by omega
  obtain ⟨i0, hi, hz0, hz1, hz2⟩ := info_parts infoDot
  have hown0 := OwnZ.lit encD 3 25 w
  have hbel0 := below_alloc w (.cells #[] 25)
  have hL0 := hL.below hbel0
  have HP := fun v (hv : RowOf encD 3 v a n c L) t => dotSortC a n c L v hv hF (by omega) t
  have HQ := fun v (hv : RowOf encD 3 v a n c L) => refSortDC a n c L v hv (by omega)
  unfold GivesZ at HP HQ
  have hs : sameDs (sortD L) (sortD L) = true := sameDs_iff.2 rfl
  have hs2 : sameDs L ([] ++ L) = true := sameDs_iff.2 rfl
  generalize (sortD L).length = m at *
  go_enter Tryd.func5, Tryd.ntmps5
  go_wp2_with (first
    | (at_builtin; refine wpList_append_rows encD_len (by decide) encD_one (by rfl) (.tmp 8) (.tmp 9) 37 (by rfl) 25 i0 (.agg #[.int .i64 0, .int .i64 0, .int .i64 0]) 24 Tryd.underlying37 hi hz0 hz1 hz2 rfl  hown0 rfl hL0 rfl n (by omega) (by unfold maxLen; omega) (by omega) hbel0.size ?_; intro a2 c2 w2 hO2 hb2 hg2 ha2; have hB2 := hbel0.trans hb2; have hL2 := hL.below hB2; have hr2 := hO2.row encD_len; have hT2 := hT.below hB2)
    | (go_at_call 26; (with_reducible refine (HP _ hL2 hT2).mono ?_); rintro e w3 ⟨a3, c3, rfl, hO3, hx⟩; have hB3 := hB2.trans (hx.mono hB2.size); have hL3 := hL.below hB3; have hr3 := hr2.below hx; have hs3 := hO3.row encD_len; have hT3 := hT.below hB3; clear hx)
    | (go_at_call 27; (with_reducible refine (HQ _ hL3).mono ?_); rintro e w4 ⟨a4, c4, rfl, hO4, hx⟩; have hB4 := hB3.trans (hx.mono hB3.size); have hL4 := hL.below hB4; have hr4 := hr3.below hx; have hs4 := hs3.below hx; have ht4 := hO4.row encD_len; have hT4 := hT.below hB4; clear hx)
    | (go_at_call 25; (with_reducible refine (refSameDC _ _ _ _ _ _ _ _ _ hs4 ht4).mono ?_); rintro e w5 ⟨rfl, q5, rfl⟩; rw [hs]; have hB5 := drawn_below hB4 q5; have hL5 := hL.below hB5; have hr5 := hr4.below (drawn_below (Below.refl _ _) q5))
    | (go_at_call 25; (with_reducible refine (refSameDC _ _ _ _ _ _ _ _ _ hL5 hr5).mono ?_); rintro e w6 ⟨rfl, q6, rfl⟩; rw [hs2]; have hB6 := drawn_below hB5 q6; have hT6 := hT.below hB6; rw [World.drewN_drewN] at hB6 hT6)
    | (go_at_call 17; (with_reducible refine (awake16C _ hT6).mono ?_); rintro e w7 ⟨rfl, hx⟩; have hB7 := hB6.trans (hx.mono hB6.size)))
  go_ret
  exact ⟨rfl, hB7⟩
end Go.Proofs.YtcfeokdhiihkdaaDoor
