/- Contracts and plain words that the laws' proofs stand on. -/
import Derived.Test.YtaodjnkjjmhecaaGreatDoorLibBA
namespace Go.Proofs.YtaodjnkjjmhecaaGreatDoor
open Go.RowKit Go.Shelf Go.WideMaps
set_option linter.unusedVariables false
attribute [local go_sem] Oper.semAt_some
structure Came {H α : Type} (lit : α → Lit) (D : DataW H) (left : Lit → Bool) (xs : List α) : Prop where
  nodup : xs.Nodup
  mem : ∀ x, x ∈ xs ↔ Go.Maps.has D (lit x) = true ∧ left (lit x) = false
theorem Came.start {H α : Type} (lit : α → Lit) (D : DataW H) : Came lit D (Go.Maps.has D) [] :=
  ⟨List.nodup_nil, fun x => ⟨fun c => absurd c List.not_mem_nil, fun ⟨a, b⟩ => by rw [a] at b; cases b⟩⟩
theorem Came.step {H α : Type} {lit : α → Lit} {D : DataW H} {left : Lit → Bool} {xs : List α} (h : Came lit D left xs) (hinj : ∀ x y, lit x = lit y → x = y) {y : α} (hk : WideAt.IsKeyLit (lit y)) (hl : left (lit y) = true) (hh : Go.Maps.has D (lit y) = true) :
    Came lit D (fun z => left z && !z.sameKey (lit y)) (xs ++ [y]) := by
  refine ⟨List.nodup_append.2 ⟨h.nodup, by simp, fun a ha b hb => ?_⟩, fun x => ?_⟩
  · rw [List.mem_singleton] at hb
    subst hb
    rintro rfl
    have := ((h.mem a).1 ha).2
    rw [hl] at this
    cases this
  · rw [List.mem_append, h.mem, List.mem_singleton]
    constructor
    · rintro (⟨a, b⟩ | rfl)
      · exact ⟨a, by rw [b]; rfl⟩
      · refine ⟨hh, ?_⟩
        rw [WideAt.sameKey_self hk]
        simp
    · rintro ⟨a, b⟩
      by_cases q : lit x = lit y
      · exact .inr (hinj _ _ q)
      · rw [Go.Maps.sameKey_ne q] at b
        exact .inl ⟨a, by simpa using b⟩
theorem Came.all {H α : Type} {lit : α → Lit} {D : DataW H} {left : Lit → Bool} {xs : List α} (h : Came lit D left xs) (h0 : ∀ kl, left kl = false) : xs.Nodup ∧ ∀ x, x ∈ xs ↔ Go.Maps.has D (lit x) = true :=
  ⟨h.nodup, fun x => by rw [h.mem, h0]; simp⟩
theorem ranges_stay {H : Type} {P : Program} {k : TypeId} {R : Value → Option (DataW H × List MemPlace)} {w w' : World} {b r n : Nat} {D : DataW H} {left : Lit → Bool} {cnt : Nat} (h : w.ranges P k R b r n D left cnt) {G : Nat → Prop} (hs : StaysG G w w') (hb : G b) : w'.ranges P k R b r n D left cnt := by
  obtain ⟨es, clock, since, seen, c0, h1, h2, h3, h4, h5, h6⟩ := h
  exact ⟨es, clock, since, seen, c0, hs.same b _ h1 (.inl hb), h2, h3, h4, hs.same r _ h5 (.inr rfl), h6⟩
theorem ranges_iter {H : Type} {P : Program} {k : TypeId} {R : Value → Option (DataW H × List MemPlace)} {w : World} {b r n : Nat} {D : DataW H} {left : Lit → Bool} {cnt : Nat} (h : w.ranges P k R b r n D left cnt) : ∃ o : Obj, w.heap[r]? = some o ∧ sysObj o = true := by
  obtain ⟨es, clock, since, seen, c0, h1, h2, h3, h4, h5, h6⟩ := h
  exact ⟨_, h5, rfl⟩
theorem stays_cell {G : Nat → Prop} {w w' : World} (h : StaysG G w w') {a : Addr} {v : Value} (hG : G a.block) (hc : w.cell? a = some v) : w'.cell? a = some v := by
  have hl := cell_lt hc
  exact (World.cell?_of_block ((h.same a.block _ (Array.getElem?_eq_getElem hl) (.inl hG)).trans (Array.getElem?_eq_getElem hl).symm)).trans hc
abbrev DF := { d : DotN // FitD d }
abbrev KF := { k : KeyT // fitK k }
def litD (x : DF) : Lit := keyD x.1
def litK (x : KF) : Lit := keyT x.1
theorem litD_inj (x y : DF) (h : litD x = litD y) : x = y := Subtype.ext (keyD_inj x.2 y.2 h)
theorem litK_inj (x y : KF) (h : litK x = litK y) : x = y := Subtype.ext (keyT_inj x.2 y.2 h)
def valDot (x : DotN) : Value := .agg #[.int .i64 x.dev, .int .i64 x.inc, .int .i64 x.seq]
def valKey (x : KeyT) : Value := .agg #[.string (str x.1), .string (str x.2.1), .string (str x.2.2)]
theorem is_dot {key : Value} {kl : Lit} (h : keyOf Tryz.prog 35 key = some kl) : ∃ x : DF, key = valDot x.1 ∧ kl = litD x := by
  obtain ⟨d, i, c, h1, h2, h3, e1, e2⟩ := key_dot_inv h
  exact ⟨⟨⟨d, i, c⟩, ⟨h1, h2, h3⟩⟩, e1, e2⟩
theorem is_key {key : Value} {kl : Lit} (h : keyOf Tryz.prog 39 key = some kl) : ∃ x : KF, key = valKey x.1 ∧ kl = litK x := by
  obtain ⟨a, b, c, h1, h2, h3, e1, e2⟩ := key_key_inv h
  exact ⟨⟨(a, b, c), ⟨h1, h2, h3⟩⟩, e1, e2⟩
/-! What they make. -/
theorem keysMakeE (mv : Option Nat) (w : World) : Calls Tryz.prog 88 #[.map mv] w fun e w' => e = .returned (.func (.func 128) #[] #[.pointer (some ⟨w.heap.size, 0, none⟩)]) ∧ w' = w.alloc (.cells #[.map mv] 102) := by
  go_enter Tryz.func88, Tryz.ntmps88
  go_wp2
  go_ret
  exact ⟨rfl, rfl⟩
theorem keysMakeS (mv : Option Nat) (w : World) : Calls Tryz.prog 76 #[.map mv] w fun e w' => e = .returned (.func (.func 121) #[] #[.pointer (some ⟨w.heap.size, 0, none⟩)]) ∧ w' = w.alloc (.cells #[.map mv] 103) := by
  go_enter Tryz.func76, Tryz.ntmps76
  go_wp2
  go_ret
  exact ⟨rfl, rfl⟩
theorem keysMakeK (mv : Option Nat) (w : World) : Calls Tryz.prog 91 #[.map mv] w fun e w' => e = .returned (.func (.func 130) #[] #[.pointer (some ⟨w.heap.size, 0, none⟩)]) ∧ w' = w.alloc (.cells #[.map mv] 104) := by
  go_enter Tryz.func91, Tryz.ntmps91
  go_wp2
  go_ret
  exact ⟨rfl, rfl⟩
theorem valuesMakeE (mv : Option Nat) (w : World) : Calls Tryz.prog 75 #[.map mv] w fun e w' => e = .returned (.func (.func 120) #[] #[.pointer (some ⟨w.heap.size, 0, none⟩)]) ∧ w' = w.alloc (.cells #[.map mv] 102) := by
  go_enter Tryz.func75, Tryz.ntmps75
  go_wp2
  go_ret
  exact ⟨rfl, rfl⟩
theorem sliceMakeE (a : Option Addr) (n c : Nat) (w : World) : Calls Tryz.prog 99 #[.slice a n c] w fun e w' => e = .returned (.func (.func 140) #[] #[.pointer (some ⟨w.heap.size, 0, none⟩)]) ∧ w' = w.alloc (.cells #[.slice a n c] 28) := by
  go_enter Tryz.func99, Tryz.ntmps99
  go_wp2
  go_ret
  exact ⟨rfl, rfl⟩
theorem sliceMakeD (a : Option Addr) (n c : Nat) (w : World) : Calls Tryz.prog 100 #[.slice a n c] w fun e w' => e = .returned (.func (.func 141) #[] #[.pointer (some ⟨w.heap.size, 0, none⟩)]) ∧ w' = w.alloc (.cells #[.slice a n c] 29) := by
  go_enter Tryz.func100, Tryz.ntmps100
  go_wp2
  go_ret
  exact ⟨rfl, rfl⟩
theorem valDot_inj {a b : DotN} (h : valDot a = valDot b) : a = b := by
  unfold valDot at h
  simp only [Value.agg.injEq, Array.mk.injEq, List.cons.injEq, Value.int.injEq, true_and, and_true] at h
  exact DotN.ext' h.1 h.2.1 h.2.2
theorem valKey_inj {a b : KeyT} (h : valKey a = valKey b) : a = b := by
  unfold valKey at h
  simp only [Value.agg.injEq, Array.mk.injEq, List.cons.injEq, Value.string.injEq, and_true] at h
  exact Prod.ext (str_inj h.1) (Prod.ext (str_inj h.2.1) (str_inj h.2.2))
set_option maxRecDepth 100000 in
set_option maxHeartbeats 2000000 in
theorem keysEachE (n Bm : Nat) (mv : Option Nat) (D : DataW Value) (w : World) (hn : 1 ≤ n) (hc : w.cell? ⟨Bm, 0, none⟩ = some (.map mv)) (hm : MapC w 35 heldElem mv D) :
    EachOf Fence.wide n Tryz.prog 128 #[.pointer (some ⟨Bm, 0, none⟩)] (fun x : DF => #[valDot x.1]) (fun k => k = Bm ∨ mv = some k) (fun xs => xs.Nodup ∧ ∀ x ∈ xs, Go.Maps.has D (litD x) = true) (fun xs => xs.Nodup ∧ ∀ x, x ∈ xs ↔ Go.Maps.has D (litD x) = true) w := by
  intro l J W hW hJ hY h0
  have hc' := (hW.cell (p := ⟨Bm, 0, none⟩) (cell_lt hc)).trans hc
  rcases hm with ⟨rfl, rfl⟩ | ⟨b, m, rfl, hown⟩
  · have hrg := run_range_nilMap (P := Tryz.prog) W 102 35 43 Tryz.underlying102
    have hnx : ∀ ty, (Instr.next (.pointer (some ⟨W.heap.size, 0, none⟩)) false ty).run Tryz.prog (W.alloc (.mapIter none 0 #[] 0)) = _ := fun ty => run_next_nilMap _ ty 0 0 #[]
    refine callsIn_of_wp Tryz.func128 rfl trivial ?_ rfl
    simp only [Tryz.ntmps128, List.size_toArray, List.length_cons, List.length_nil, Nat.reduceAdd, Nat.reduceSub, Array.replicate_succ, Array.replicate_zero, List.push_toArray, List.append_toArray, List.nil_append, List.cons_append]
    gi_wp2
    refine wpIn_loop_rounds 1 ?_
    rw [roundsIn_succ]
    gi_wp2
    go_end0
    exact ⟨⟨_, rfl⟩, [], ⟨List.nodup_nil, fun x => ⟨fun c => absurd c List.not_mem_nil, fun c => by cases c⟩⟩, hJ [] W _ (SysStep.alloc _ _ _) h0⟩
  · have hown' : W.ownsMap Tryz.prog 35 heldElem b m D := (Keeps.new (F := fun _ => False) hW).grownBy (fun h => h) hown
    clear hown hc
    have hlB := cell_lt hc'
    refine callsIn_of_wp Tryz.func128 rfl trivial ?_ rfl
    simp only [Tryz.ntmps128, List.size_toArray, List.length_cons, List.length_nil, Nat.reduceAdd, Nat.reduceSub, Array.replicate_succ, Array.replicate_zero, List.push_toArray, List.append_toArray, List.nil_append, List.cons_append]
    gi_wp2_with (first
      | (gi_at_range; refine wpListIn_range_own _ rfl _ 102 rfl 35 43 keyedDot Tryz.underlying102 _ b m _ rfl hown' ?_; intro w0 hrg0 hg0 hs0)
      | gi_in)
    try go_frame
    gi_loopw [3] (fun _ wr => ∃ (left : Lit → Bool) (cnt : Nat) (xs : List DF), wr.ranges Tryz.prog 35 heldElem b W.heap.size m D left cnt ∧ Came litD D left xs ∧ J xs wr)
      (fun _ wr => wr.rangeLeft b W.heap.size)
    case atStart => exact ⟨_, _, [], hrg0, Came.start _ D, hJ [] W w0 (SysStep.grown hg0 (fun r e => by cases e)) h0⟩
    case round =>
      clear hrg0 hg0 hs0 hc'
      obtain ⟨left, cnt, xs, hrg, hC, hJs⟩ := hrel
      gi_wp2_with (first
        | (gi_at_next; refine wpListIn_next_ranges _ rfl _ rfl 35 keyedDot heldElem (fun x : DF => valDot x.1) (fun v : Value => v) (fun key kl hk => by obtain ⟨x, hx, _⟩ := is_dot hk; exact ⟨x, hx⟩) (fun v _ _ => ⟨v, rfl⟩) b W.heap.size m _ _ _ rfl hrg ?_ ?_)
        | gi_in)
      · intro hc0 hl0
        gi_wp2
        go_end0
        exact ⟨⟨_, rfl⟩, xs, hC.all hl0, hJs⟩
      · intro x hx c kl yd yp w2 cnt2 hkey hlk hv hat hrg2 hlt hg2 hs2 hen
        obtain ⟨x', ex, rfl⟩ := is_dot hkey
        have exx : x = x'.1 := valDot_inj ex
        obtain ⟨x', hx'⟩ := x'
        dsimp only at exx
        subst exx
        have hh := Go.Maps.has_true_of_atKey hat
        have hJ2 : J xs w2 := hJ xs wr w2 (SysStep.grown hg2 (fun r e => by cases e; exact ⟨Nat.le_refl _, ranges_iter hrg⟩)) hJs
        have hC2 := hC.step litD_inj (keyedDot.key hkey) hlk hh
        dsimp only at *
        have hbk := below_alloc w2 (.cells #[.int .i64 x.dev, .int .i64 x.inc, .int .i64 x.seq] 35)
        have hrg3 := hrg2.alloc (.cells #[.int .i64 x.dev, .int .i64 x.inc, .int .i64 x.seq] 35)
        have hJ3 := hJ xs w2 _ (SysStep.alloc W.heap.size w2 (.cells #[.int .i64 x.dev, .int .i64 x.inc, .int .i64 x.seq] 35)) hJ2
        obtain ⟨w3, hw3⟩ : ∃ w3, w2.alloc (.cells #[.int .i64 x.dev, .int .i64 x.inc, .int .i64 x.seq] 35) = w3 := ⟨_, rfl⟩
        have o3 := ObjAt.new w2 #[.int .i64 x.dev, .int .i64 x.inc, .int .i64 x.seq] 35
        rw [hw3] at hrg3 hJ3 o3
        have y0 := o3.cell 0 rfl; have y1 := o3.cell 1 rfl; have y2 := o3.cell 2 rfl
        obtain ⟨fn, tmps, assign, body, hy, hR⟩ := hY xs ⟨x, hx⟩ w3 hJ3 ⟨hC2.nodup, fun y hy => ((hC2.mem y).1 hy).1⟩
        dsimp only [valDot] at hy hen
        clear hs2 hkey hv hat hC hrg2 hJ2 hbk hh ex hlk o3
        unfold valDot
        gi_wp2
        refine hR.mono ?_
        rintro e W3 ⟨rfl, hJ4, hk4⟩
        gi_wp2
        have hrg4 := ranges_stay hrg3 hk4 (.inr rfl)
        go_roundw
        case rel => exact ⟨_, cnt2, _, hrg4, hC2, hJ4⟩
        case measure => rw [hrg4.left_eq, hrg.left_eq]; exact hlt
set_option maxRecDepth 100000 in
set_option maxHeartbeats 2000000 in
theorem keysEachS (n Bm : Nat) (mv : Option Nat) (D : DataW Unit) (w : World) (hn : 1 ≤ n) (hc : w.cell? ⟨Bm, 0, none⟩ = some (.map mv)) (hm : MapC w 35 unitElem mv D) :
    EachOf Fence.wide n Tryz.prog 121 #[.pointer (some ⟨Bm, 0, none⟩)] (fun x : DF => #[valDot x.1]) (fun k => k = Bm ∨ mv = some k) (fun xs => xs.Nodup ∧ ∀ x ∈ xs, Go.Maps.has D (litD x) = true) (fun xs => xs.Nodup ∧ ∀ x, x ∈ xs ↔ Go.Maps.has D (litD x) = true) w := by
  intro l J W hW hJ hY h0
  have hc' := (hW.cell (p := ⟨Bm, 0, none⟩) (cell_lt hc)).trans hc
  rcases hm with ⟨rfl, rfl⟩ | ⟨b, m, rfl, hown⟩
  · have hrg := run_range_nilMap (P := Tryz.prog) W 103 35 123 Tryz.underlying103
    have hnx : ∀ ty, (Instr.next (.pointer (some ⟨W.heap.size, 0, none⟩)) false ty).run Tryz.prog (W.alloc (.mapIter none 0 #[] 0)) = _ := fun ty => run_next_nilMap _ ty 0 0 #[]
    refine callsIn_of_wp Tryz.func121 rfl trivial ?_ rfl
    simp only [Tryz.ntmps121, List.size_toArray, List.length_cons, List.length_nil, Nat.reduceAdd, Nat.reduceSub, Array.replicate_succ, Array.replicate_zero, List.push_toArray, List.append_toArray, List.nil_append, List.cons_append]
    gi_wp2
    refine wpIn_loop_rounds 1 ?_
    rw [roundsIn_succ]
    gi_wp2
    go_end0
    exact ⟨⟨_, rfl⟩, [], ⟨List.nodup_nil, fun x => ⟨fun c => absurd c List.not_mem_nil, fun c => by cases c⟩⟩, hJ [] W _ (SysStep.alloc _ _ _) h0⟩
  · have hown' : W.ownsMap Tryz.prog 35 unitElem b m D := (Keeps.new (F := fun _ => False) hW).grownBy (fun h => h) hown
    clear hown hc
    have hlB := cell_lt hc'
    refine callsIn_of_wp Tryz.func121 rfl trivial ?_ rfl
    simp only [Tryz.ntmps121, List.size_toArray, List.length_cons, List.length_nil, Nat.reduceAdd, Nat.reduceSub, Array.replicate_succ, Array.replicate_zero, List.push_toArray, List.append_toArray, List.nil_append, List.cons_append]
    gi_wp2_with (first
      | (gi_at_range; refine wpListIn_range_own _ rfl _ 103 rfl 35 123 keyedDot Tryz.underlying103 _ b m _ rfl hown' ?_; intro w0 hrg0 hg0 hs0)
      | gi_in)
    try go_frame
    gi_loopw [3] (fun _ wr => ∃ (left : Lit → Bool) (cnt : Nat) (xs : List DF), wr.ranges Tryz.prog 35 unitElem b W.heap.size m D left cnt ∧ Came litD D left xs ∧ J xs wr)
      (fun _ wr => wr.rangeLeft b W.heap.size)
    case atStart => exact ⟨_, _, [], hrg0, Came.start _ D, hJ [] W w0 (SysStep.grown hg0 (fun r e => by cases e)) h0⟩
    case round =>
      clear hrg0 hg0 hs0 hc'
      obtain ⟨left, cnt, xs, hrg, hC, hJs⟩ := hrel
      gi_wp2_with (first
        | (gi_at_next; refine wpListIn_next_ranges _ rfl _ rfl 35 keyedDot unitElem (fun x : DF => valDot x.1) (fun v : Value => v) (fun key kl hk => by obtain ⟨x, hx, _⟩ := is_dot hk; exact ⟨x, hx⟩) (fun v _ _ => ⟨v, rfl⟩) b W.heap.size m _ _ _ rfl hrg ?_ ?_)
        | gi_in)
      · intro hc0 hl0
        gi_wp2
        go_end0
        exact ⟨⟨_, rfl⟩, xs, hC.all hl0, hJs⟩
      · intro x hx c kl yd yp w2 cnt2 hkey hlk hv hat hrg2 hlt hg2 hs2 hen
        obtain ⟨x', ex, rfl⟩ := is_dot hkey
        have exx : x = x'.1 := valDot_inj ex
        obtain ⟨x', hx'⟩ := x'
        dsimp only at exx
        subst exx
        have hh := Go.Maps.has_true_of_atKey hat
        have hJ2 : J xs w2 := hJ xs wr w2 (SysStep.grown hg2 (fun r e => by cases e; exact ⟨Nat.le_refl _, ranges_iter hrg⟩)) hJs
        have hC2 := hC.step litD_inj (keyedDot.key hkey) hlk hh
        dsimp only at *
        have hbk := below_alloc w2 (.cells #[.int .i64 x.dev, .int .i64 x.inc, .int .i64 x.seq] 35)
        have hrg3 := hrg2.alloc (.cells #[.int .i64 x.dev, .int .i64 x.inc, .int .i64 x.seq] 35)
        have hJ3 := hJ xs w2 _ (SysStep.alloc W.heap.size w2 (.cells #[.int .i64 x.dev, .int .i64 x.inc, .int .i64 x.seq] 35)) hJ2
        obtain ⟨w3, hw3⟩ : ∃ w3, w2.alloc (.cells #[.int .i64 x.dev, .int .i64 x.inc, .int .i64 x.seq] 35) = w3 := ⟨_, rfl⟩
        have o3 := ObjAt.new w2 #[.int .i64 x.dev, .int .i64 x.inc, .int .i64 x.seq] 35
        rw [hw3] at hrg3 hJ3 o3
        have y0 := o3.cell 0 rfl; have y1 := o3.cell 1 rfl; have y2 := o3.cell 2 rfl
        obtain ⟨fn, tmps, assign, body, hy, hR⟩ := hY xs ⟨x, hx⟩ w3 hJ3 ⟨hC2.nodup, fun y hy => ((hC2.mem y).1 hy).1⟩
        dsimp only [valDot] at hy hen
        clear hs2 hkey hv hat hC hrg2 hJ2 hbk hh ex hlk o3
        unfold valDot
        gi_wp2
        refine hR.mono ?_
        rintro e W3 ⟨rfl, hJ4, hk4⟩
        gi_wp2
        have hrg4 := ranges_stay hrg3 hk4 (.inr rfl)
        go_roundw
        case rel => exact ⟨_, cnt2, _, hrg4, hC2, hJ4⟩
        case measure => rw [hrg4.left_eq, hrg.left_eq]; exact hlt
set_option maxRecDepth 100000 in
set_option maxHeartbeats 2000000 in
theorem keysEachK (n Bm : Nat) (mv : Option Nat) (D : DataW Value) (w : World) (hn : 1 ≤ n) (hc : w.cell? ⟨Bm, 0, none⟩ = some (.map mv)) (hm : MapC w 39 heldElem mv D) :
    EachOf Fence.wide n Tryz.prog 130 #[.pointer (some ⟨Bm, 0, none⟩)] (fun x : KF => #[valKey x.1]) (fun k => k = Bm ∨ mv = some k) (fun xs => xs.Nodup ∧ ∀ x ∈ xs, Go.Maps.has D (litK x) = true) (fun xs => xs.Nodup ∧ ∀ x, x ∈ xs ↔ Go.Maps.has D (litK x) = true) w := by
  intro l J W hW hJ hY h0
  have hc' := (hW.cell (p := ⟨Bm, 0, none⟩) (cell_lt hc)).trans hc
  rcases hm with ⟨rfl, rfl⟩ | ⟨b, m, rfl, hown⟩
  · have hrg := run_range_nilMap (P := Tryz.prog) W 104 39 103 Tryz.underlying104
    have hnx : ∀ ty, (Instr.next (.pointer (some ⟨W.heap.size, 0, none⟩)) false ty).run Tryz.prog (W.alloc (.mapIter none 0 #[] 0)) = _ := fun ty => run_next_nilMap _ ty 0 0 #[]
    refine callsIn_of_wp Tryz.func130 rfl trivial ?_ rfl
    simp only [Tryz.ntmps130, List.size_toArray, List.length_cons, List.length_nil, Nat.reduceAdd, Nat.reduceSub, Array.replicate_succ, Array.replicate_zero, List.push_toArray, List.append_toArray, List.nil_append, List.cons_append]
    gi_wp2
    refine wpIn_loop_rounds 1 ?_
    rw [roundsIn_succ]
    gi_wp2
    go_end0
    exact ⟨⟨_, rfl⟩, [], ⟨List.nodup_nil, fun x => ⟨fun c => absurd c List.not_mem_nil, fun c => by cases c⟩⟩, hJ [] W _ (SysStep.alloc _ _ _) h0⟩
  · have hown' : W.ownsMap Tryz.prog 39 heldElem b m D := (Keeps.new (F := fun _ => False) hW).grownBy (fun h => h) hown
    clear hown hc
    have hlB := cell_lt hc'
    refine callsIn_of_wp Tryz.func130 rfl trivial ?_ rfl
    simp only [Tryz.ntmps130, List.size_toArray, List.length_cons, List.length_nil, Nat.reduceAdd, Nat.reduceSub, Array.replicate_succ, Array.replicate_zero, List.push_toArray, List.append_toArray, List.nil_append, List.cons_append]
    gi_wp2_with (first
      | (gi_at_range; refine wpListIn_range_own _ rfl _ 104 rfl 39 103 keyedKey Tryz.underlying104 _ b m _ rfl hown' ?_; intro w0 hrg0 hg0 hs0)
      | gi_in)
    try go_frame
    gi_loopw [3] (fun _ wr => ∃ (left : Lit → Bool) (cnt : Nat) (xs : List KF), wr.ranges Tryz.prog 39 heldElem b W.heap.size m D left cnt ∧ Came litK D left xs ∧ J xs wr)
      (fun _ wr => wr.rangeLeft b W.heap.size)
    case atStart => exact ⟨_, _, [], hrg0, Came.start _ D, hJ [] W w0 (SysStep.grown hg0 (fun r e => by cases e)) h0⟩
    case round =>
      clear hrg0 hg0 hs0 hc'
      obtain ⟨left, cnt, xs, hrg, hC, hJs⟩ := hrel
      gi_wp2_with (first
        | (gi_at_next; refine wpListIn_next_ranges _ rfl _ rfl 39 keyedKey heldElem (fun x : KF => valKey x.1) (fun v : Value => v) (fun key kl hk => by obtain ⟨x, hx, _⟩ := is_key hk; exact ⟨x, hx⟩) (fun v _ _ => ⟨v, rfl⟩) b W.heap.size m _ _ _ rfl hrg ?_ ?_)
        | gi_in)
      · intro hc0 hl0
        gi_wp2
        go_end0
        exact ⟨⟨_, rfl⟩, xs, hC.all hl0, hJs⟩
      · intro x1 x2 x3 hx c kl yd yp w2 cnt2 hkey hlk hv hat hrg2 hlt hg2 hs2 hen
        obtain ⟨x', ex, rfl⟩ := is_key hkey
        have exx : (x1, x2, x3) = x'.1 := valKey_inj ex
        obtain ⟨x', hx'⟩ := x'
        dsimp only at exx
        subst exx
        have hh := Go.Maps.has_true_of_atKey hat
        have hJ2 : J xs w2 := hJ xs wr w2 (SysStep.grown hg2 (fun r e => by cases e; exact ⟨Nat.le_refl _, ranges_iter hrg⟩)) hJs
        have hC2 := hC.step litK_inj (keyedKey.key hkey) hlk hh
        dsimp only at *
        have hbk := below_alloc w2 (.cells #[.string (str x1), .string (str x2), .string (str x3)] 39)
        have hrg3 := hrg2.alloc (.cells #[.string (str x1), .string (str x2), .string (str x3)] 39)
        have hJ3 := hJ xs w2 _ (SysStep.alloc W.heap.size w2 (.cells #[.string (str x1), .string (str x2), .string (str x3)] 39)) hJ2
        obtain ⟨w3, hw3⟩ : ∃ w3, w2.alloc (.cells #[.string (str x1), .string (str x2), .string (str x3)] 39) = w3 := ⟨_, rfl⟩
        have o3 := ObjAt.new w2 #[.string (str x1), .string (str x2), .string (str x3)] 39
        rw [hw3] at hrg3 hJ3 o3
        have y0 := o3.cell 0 rfl; have y1 := o3.cell 1 rfl; have y2 := o3.cell 2 rfl
        obtain ⟨fn, tmps, assign, body, hy, hR⟩ := hY xs ⟨(x1, x2, x3), hx⟩ w3 hJ3 ⟨hC2.nodup, fun y hy => ((hC2.mem y).1 hy).1⟩
        dsimp only [valKey] at hy hen
        clear hs2 hkey hv hat hC hrg2 hJ2 hbk hh ex hlk o3
        unfold valKey
        gi_wp2
        refine hR.mono ?_
        rintro e W3 ⟨rfl, hJ4, hk4⟩
        gi_wp2
        have hrg4 := ranges_stay hrg3 hk4 (.inr rfl)
        go_roundw
        case rel => exact ⟨_, cnt2, _, hrg4, hC2, hJ4⟩
        case measure => rw [hrg4.left_eq, hrg.left_eq]; exact hlt
theorem kept_held {D : DataW Value} {rs : List EvR} (h : KeptD D rs) {x : DotN} (hx : FitD x) {v : Value} (hat : ∀ zd, D.atKey (keyD x) zd = .held v) : ∃ r, lookR rs x = some r ∧ v = .agg (encE r).toArray := by
  have h1 := h.at_ x hx
  have h2 := h1.has
  rw [Go.Maps.has_true_of_atKey hat] at h2
  cases h3 : lookR rs x with
  | none =>
    rw [h3] at h2
    simp at h2
  | some r =>
    rw [h3] at h1
    have h4 := (h1.at_ _ rfl .nil).symm.trans (hat .nil)
    cases h4
    exact ⟨r, rfl, rfl⟩
theorem encE_all (r : EvR) : (encE r).toArray.all (·.oneCell') = true := by
  rw [List.all_toArray]
  rfl
def litE (rs : List EvR) (x : { r : EvR // r ∈ rs }) : Lit := keyD x.1.e.dot
theorem litE_inj {rs : List EvR} (hs : SortedE (rs.map (·.e))) (hf : ∀ r ∈ rs, FitD r.e.dot) (x y : { r : EvR // r ∈ rs }) (h : litE rs x = litE rs y) : x = y := by
  have h1 := keyD_inj (hf _ x.2) (hf _ y.2) h
  have h2 := lookR_mem hs x.2
  rw [h1, lookR_mem hs y.2] at h2
  exact Subtype.ext (Option.some.inj h2).symm
set_option maxRecDepth 100000 in
set_option maxHeartbeats 2000000 in
theorem valuesEachE (n Bm : Nat) (mv : Option Nat) (rs : List EvR) (w : World) (hn : 1 ≤ n) (hc : w.cell? ⟨Bm, 0, none⟩ = some (.map mv)) (hm : KeptIs w mv rs) (hs : SortedE (rs.map (·.e))) (hf : ∀ r ∈ rs, FitD r.e.dot) :
    EachOf Fence.wide n Tryz.prog 120 #[.pointer (some ⟨Bm, 0, none⟩)] (fun x : { r : EvR // r ∈ rs } => #[.agg (encE x.1).toArray]) (fun k => k = Bm ∨ mv = some k) (fun xs => xs.Nodup) (fun xs => xs.Nodup ∧ ∀ x, x ∈ xs) w := by
  intro l J W hW hJ hY h0
  have hc' := (hW.cell (p := ⟨Bm, 0, none⟩) (cell_lt hc)).trans hc
  rcases hm with ⟨rfl, rfl⟩ | ⟨b, m, D, rfl, hown, hD⟩
  · have hrg := run_range_nilMap (P := Tryz.prog) W 102 35 43 Tryz.underlying102
    have hnx : ∀ ty, (Instr.next (.pointer (some ⟨W.heap.size, 0, none⟩)) false ty).run Tryz.prog (W.alloc (.mapIter none 0 #[] 0)) = _ := fun ty => run_next_nilMap _ ty 0 0 #[]
    refine callsIn_of_wp Tryz.func120 rfl trivial ?_ rfl
    simp only [Tryz.ntmps120, List.size_toArray, List.length_cons, List.length_nil, Nat.reduceAdd, Nat.reduceSub, Array.replicate_succ, Array.replicate_zero, List.push_toArray, List.append_toArray, List.nil_append, List.cons_append]
    gi_wp2
    refine wpIn_loop_rounds 1 ?_
    rw [roundsIn_succ]
    gi_wp2
    go_end0
    exact ⟨⟨_, rfl⟩, [], ⟨List.nodup_nil, fun x => absurd x.2 List.not_mem_nil⟩, hJ [] W _ (SysStep.alloc _ _ _) h0⟩
  · have hown' : W.ownsMap Tryz.prog 35 heldElem b m D := (Keeps.new (F := fun _ => False) hW).grownBy (fun h => h) hown
    clear hown hc
    have hlB := cell_lt hc'
    have hinj := litE_inj hs hf
    obtain ⟨Z, hZ⟩ : ∃ Z, (#[.int .i64 0, .int .i64 0, .int .i64 0, .int .i64 0, .int .i64 0, .int .i64 0, .int .i64 0, .string ⟨#[]⟩, .string ⟨#[]⟩, .string ⟨#[]⟩, .string ⟨#[]⟩, .bool false, .bool false, .bool false, .bool false, .int .i64 0, .int .i64 0, .int .i64 0, .slice none 0 0] : Array Value) = Z := ⟨_, rfl⟩
    have zZ : Z.size = 19 := by rw [← hZ]; rfl
    refine callsIn_of_wp Tryz.func120 rfl trivial ?_ rfl
    simp only [Tryz.ntmps120, List.size_toArray, List.length_cons, List.length_nil, Nat.reduceAdd, Nat.reduceSub, Array.replicate_succ, Array.replicate_zero, List.push_toArray, List.append_toArray, List.nil_append, List.cons_append]
    gi_wp2_with (first
      | (gi_at_range; refine wpListIn_range_own _ rfl _ 102 rfl 35 43 keyedDot Tryz.underlying102 _ b m _ rfl hown' ?_; intro w0 hrg0 hg0 hs0)
      | gi_in)
    try go_frame
    gi_loopw [4] (fun _ wr => ∃ (left : Lit → Bool) (cnt : Nat) (xs : List { r : EvR // r ∈ rs }), wr.ranges Tryz.prog 35 heldElem b W.heap.size m D left cnt ∧ Came (litE rs) D left xs ∧ J xs wr)
      (fun _ wr => wr.rangeLeft b W.heap.size)
    case atStart => exact ⟨_, _, [], hrg0, Came.start _ D, hJ [] W w0 (SysStep.grown hg0 (fun r e => by cases e)) h0⟩
    case round =>
      clear hrg0 hg0 hs0 hc'
      obtain ⟨left, cnt, xs, hrg, hC, hJs⟩ := hrel
      gi_wp2_with (first
        | (gi_at_next; refine wpListIn_next_ranges _ rfl _ rfl 35 keyedDot heldElem (fun x : DF => valDot x.1) (fun v : Value => v) (fun key kl hk => by obtain ⟨x, hx, _⟩ := is_dot hk; exact ⟨x, hx⟩) (fun v _ _ => ⟨v, rfl⟩) b W.heap.size m _ _ _ rfl hrg ?_ ?_)
        | gi_in)
      · intro hc0 hl0
        gi_wp2
        go_end0
        refine ⟨⟨_, rfl⟩, xs, ⟨(hC.all hl0).1, fun x => ((hC.all hl0).2 x).2 ?_⟩, hJs⟩
        have h1 := (hD.at_ _ (hf _ x.2)).has
        rw [lookR_mem hs x.2] at h1
        exact h1
      · intro x hx v kl yd yp w2 cnt2 hkey hlk hv hat hrg2 hlt hg2 hs2 hen
        obtain ⟨x', ex, rfl⟩ := is_dot hkey
        have exx : x = x'.1 := valDot_inj ex
        obtain ⟨x', hx'⟩ := x'
        dsimp only at exx
        subst exx
        have hyd := held_inv (d := yd) (ps := yp) hv
        subst hyd
        obtain ⟨r, hr, rfl⟩ := kept_held hD hx' hat
        obtain ⟨hr1, rfl⟩ := lookR_some hr
        have hh := Go.Maps.has_true_of_atKey hat
        have hJ2 : J xs w2 := hJ xs wr w2 (SysStep.grown hg2 (fun r e => by cases e; exact ⟨Nat.le_refl _, ranges_iter hrg⟩)) hJs
        have hC2 := hC.step (y := ⟨r, hr1⟩) hinj (keyedDot.key hkey) hlk hh
        dsimp only at *
        have HY := fun ww => hY xs ⟨r, hr1⟩ ww
        dsimp only at HY
        obtain ⟨A, hA⟩ : ∃ A, (encE r).toArray = A := ⟨_, rfl⟩
        have zA : A.size = 19 := by rw [← hA]; rfl
        have hone : A.all (·.oneCell') = true := by rw [← hA]; exact encE_all _
        rw [hA] at HY hen
        have hrg3 := hrg2.alloc (.cells A 43)
        have hJ3 := hJ xs w2 _ (SysStep.alloc W.heap.size w2 (.cells A 43)) hJ2
        have oA := ObjAt.new w2 A 43
        obtain ⟨fn, tmps, assign, body, hy, hR⟩ := HY _ hJ3 hC2.nodup
        clear hs2 hkey hv hat hC hrg2 hJ2 hh ex hlk HY hA hY hJ3 hr
        gi_wp2_with (first
        | (refine wpListIn_storeAll letsAll_wide rfl 43 _ _ rfl Z A 19 rfl rfl (by kernel_rfl) zZ zA hone ?_)
        | (refine wpListIn_loadAll letsAll_wide rfl 43 _ rfl w2.heap.size 19 A rfl oA Tryz.isAgg43 Tryz.sizeOf43 zA ?_))
        refine hR.mono ?_
        rintro e W3 ⟨rfl, hJ4, hk4⟩
        gi_wp2
        have hrg4 := ranges_stay hrg3 hk4 (.inr rfl)
        go_roundw
        case rel => exact ⟨_, cnt2, _, hrg4, hC2, hJ4⟩
        case measure => rw [hrg4.left_eq, hrg.left_eq]; exact hlt
theorem RowOf.stays {α : Type} {enc : α → List Value} {z : Nat} {w w' : World} {a : Option Addr} {n c : Nat} {L : List α} (h : RowOf enc z w a n c L) {G : Nat → Prop} (hs : StaysG G w w') (hG : ∀ k, At a k → G k) : RowOf enc z w' a n c L := by
  refine ⟨h.leq, h.cle, h.capm, h.nil0, fun i x hx => ?_⟩
  obtain ⟨g, off, e, hc⟩ := h.at_ i x hx
  exact ⟨g, off, e, fun j v hv => stays_cell hs (hG g (e ▸ at_some.2 rfl)) (hc j v hv)⟩
set_option maxRecDepth 100000 in
set_option maxHeartbeats 2000000 in
theorem sliceEachD (m Bs : Nat) (a : Option Addr) (n c : Nat) (L : List DotN) (w : World) (hm : 1 ≤ m) (hc : w.cell? ⟨Bs, 0, none⟩ = some (.slice a n c)) (hL : RowOf encD 3 w a n c L) :
    EachOf Fence.wide m Tryz.prog 141 #[.pointer (some ⟨Bs, 0, none⟩)] (fun x : { r : DotN // r ∈ L } => #[.agg (encD x.1).toArray]) (fun k => k = Bs ∨ At a k) (fun xs => ∃ k, xs.map (·.1) = L.take k) (fun xs => xs.map (·.1) = L) w := by
  intro l J W hW hJ hY h0
  have hc' := (hW.cell (p := ⟨Bs, 0, none⟩) (cell_lt hc)).trans hc
  have hL' := hL.below hW
  have hlq := hL.leq
  have hcm := hL.capm
  have hcl := hL.cle
  unfold maxLen at hcm
  clear hc hL
  refine callsIn_of_wp Tryz.func141 rfl trivial ?_ rfl
  simp only [Tryz.ntmps141, List.size_toArray, List.length_cons, List.length_nil, Nat.reduceAdd, Nat.reduceSub, Array.replicate_succ, Array.replicate_zero, List.push_toArray, List.append_toArray, List.nil_append, List.cons_append]
  gi_wp2
  gi_loopw [4, 7] (fun _ i wr => ∃ (k : Nat) (xs : List { r : DotN // r ∈ L }), k ≤ n ∧ i = .int .i64 (k : Int) ∧ Hid (xs.map (·.1) = L.take k) ∧ J xs wr ∧ RowOf encD 3 wr a n c L ∧ wr.cell? ⟨Bs, 0, none⟩ = some (.slice a n c)) (fun _ i _ => n - (intOf i).toNat)
  case atStart => exact ⟨0, [], Nat.zero_le _, rfl, rfl, h0, hL', hc'⟩
  case round =>
    obtain ⟨k, xs, hk, rfl, hxs, hJs, hr, hcr⟩ := hrel
    by_cases hlt : k < n
    · have hlt' : (k : Int) < (n : Int) := by omega
      obtain ⟨x, g, off, hx, rfl, u0, u1, u2⟩ := dot_at hr k hlt
      have hmem := List.mem_of_getElem? hx
      have hst : Hid ((xs ++ [(⟨x, hmem⟩ : { r : DotN // r ∈ L })]).map (·.1) = L.take (k + 1)) := by
        unfold Hid
        rw [List.map_append, hxs.out, take_snocI hx]
        rfl
      have hJ3 := hJ xs wr _ (SysStep.alloc W.heap.size wr (.cells #[.int .i64 x.dev, .int .i64 x.inc, .int .i64 x.seq] 35)) hJs
      have hr3 := hr.below (below_alloc wr (.cells #[.int .i64 x.dev, .int .i64 x.inc, .int .i64 x.seq] 35))
      have hc3 := (below_alloc wr (.cells #[.int .i64 x.dev, .int .i64 x.inc, .int .i64 x.seq] 35)).cell (p := ⟨Bs, 0, none⟩) (cell_lt hcr) |>.trans hcr
      have oA := ObjAt.new wr #[.int .i64 x.dev, .int .i64 x.inc, .int .i64 x.seq] 35
      obtain ⟨w3, hw3⟩ : ∃ w3, wr.alloc (.cells #[.int .i64 x.dev, .int .i64 x.inc, .int .i64 x.seq] 35) = w3 := ⟨_, rfl⟩
      rw [hw3] at hJ3 hr3 hc3 oA
      have y0 := oA.cell 0 rfl; have y1 := oA.cell 1 rfl; have y2 := oA.cell 2 rfl
      obtain ⟨fn, tmps, assign, body, hy, hR⟩ := hY xs ⟨x, hmem⟩ w3 hJ3 ⟨_, hst.out⟩
      dsimp only [encD] at hy
      clear hY hJ hL' hc' hW
      gi_wp2
      refine hR.mono ?_
      rintro e W3 ⟨rfl, hJ4, hk4⟩
      gi_wp2
      go_roundw
      case rel => exact ⟨k + 1, _, by omega, by go_num, hst, hJ4, hr3.stays hk4 (fun k h => .inr h), stays_cell hk4 (.inl rfl) hc3⟩
      case measure => simp [intOf]; omega
    · obtain rfl : n = k := by omega
      gi_wp2
      go_end0
      exact ⟨⟨_, rfl⟩, xs, by rw [hxs.out, List.take_of_length_le (Nat.le_of_eq hlq)], hJs⟩
set_option maxRecDepth 100000 in
set_option maxHeartbeats 2000000 in
theorem sliceEachE (m Bs : Nat) (a : Option Addr) (n c : Nat) (L : List EvR) (w : World) (hm : 1 ≤ m) (hc : w.cell? ⟨Bs, 0, none⟩ = some (.slice a n c)) (hL : RowOf encE 19 w a n c L) :
    EachOf Fence.wide m Tryz.prog 140 #[.pointer (some ⟨Bs, 0, none⟩)] (fun x : { r : EvR // r ∈ L } => #[.agg (encE x.1).toArray]) (fun k => k = Bs ∨ At a k) (fun xs => ∃ k, xs.map (·.1) = L.take k) (fun xs => xs.map (·.1) = L) w := by
  intro l J W hW hJ hY h0
  have hc' := (hW.cell (p := ⟨Bs, 0, none⟩) (cell_lt hc)).trans hc
  have hL' := hL.below hW
  have hlq := hL.leq
  have hcm := hL.capm
  have hcl := hL.cle
  unfold maxLen at hcm
  clear hc hL
  obtain ⟨Z, hZ⟩ : ∃ Z, (#[.int .i64 0, .int .i64 0, .int .i64 0, .int .i64 0, .int .i64 0, .int .i64 0, .int .i64 0, .string ⟨#[]⟩, .string ⟨#[]⟩, .string ⟨#[]⟩, .string ⟨#[]⟩, .bool false, .bool false, .bool false, .bool false, .int .i64 0, .int .i64 0, .int .i64 0, .slice none 0 0] : Array Value) = Z := ⟨_, rfl⟩
  have zZ : Z.size = 19 := by rw [← hZ]; rfl
  refine callsIn_of_wp Tryz.func140 rfl trivial ?_ rfl
  simp only [Tryz.ntmps140, List.size_toArray, List.length_cons, List.length_nil, Nat.reduceAdd, Nat.reduceSub, Array.replicate_succ, Array.replicate_zero, List.push_toArray, List.append_toArray, List.nil_append, List.cons_append]
  gi_wp2
  gi_loopw [4, 7] (fun _ i wr => ∃ (k : Nat) (xs : List { r : EvR // r ∈ L }), k ≤ n ∧ i = .int .i64 (k : Int) ∧ Hid (xs.map (·.1) = L.take k) ∧ J xs wr ∧ RowOf encE 19 wr a n c L ∧ wr.cell? ⟨Bs, 0, none⟩ = some (.slice a n c)) (fun _ i _ => n - (intOf i).toNat)
  case atStart => exact ⟨0, [], Nat.zero_le _, rfl, rfl, h0, hL', hc'⟩
  case round =>
    obtain ⟨k, xs, hk, rfl, hxs, hJs, hr, hcr⟩ := hrel
    by_cases hlt : k < n
    · have hlt' : (k : Int) < (n : Int) := by omega
      obtain ⟨x, g, off, A, hx, rfl, hA, zA, lA, cA, -⟩ := evr_at hr k hlt
      have hone : A.all (·.oneCell') = true := by rw [← hA]; exact encE_all _
      have hmem := List.mem_of_getElem? hx
      have hst : Hid ((xs ++ [(⟨x, hmem⟩ : { r : EvR // r ∈ L })]).map (·.1) = L.take (k + 1)) := by
        unfold Hid
        rw [List.map_append, hxs.out, take_snocI hx]
        rfl
      have hJ3 := hJ xs wr _ (SysStep.alloc W.heap.size wr (.cells A 43)) hJs
      have hr3 := hr.below (below_alloc wr (.cells A 43))
      have hc3 := (below_alloc wr (.cells A 43)).cell (p := ⟨Bs, 0, none⟩) (cell_lt hcr) |>.trans hcr
      have oA := ObjAt.new wr A 43
      have HY := fun ww => hY xs ⟨x, hmem⟩ ww
      dsimp only at HY
      rw [hA] at HY
      obtain ⟨fn, tmps, assign, body, hy, hR⟩ := HY _ hJ3 ⟨_, hst.out⟩
      clear hY hJ hL' hc' hW hA lA HY
      gi_wp2_with (first
        | (refine wpListIn_loadRow letsAll_wide rfl 43 _ rfl g (off + k * 19) 19 A rfl cA Tryz.isAgg43 Tryz.sizeOf43 zA ?_)
        | (refine wpListIn_storeAll letsAll_wide rfl 43 _ _ rfl Z A 19 rfl rfl (by kernel_rfl) zZ zA hone ?_)
        | (refine wpListIn_loadAll letsAll_wide rfl 43 _ rfl wr.heap.size 19 A rfl oA Tryz.isAgg43 Tryz.sizeOf43 zA ?_))
      refine hR.mono ?_
      rintro e W3 ⟨rfl, hJ4, hk4⟩
      gi_wp2
      go_roundw
      case rel => exact ⟨k + 1, _, by omega, by go_num, hst, hJ4, hr3.stays hk4 (fun k h => .inr h), stays_cell hk4 (.inl rfl) hc3⟩
      case measure => simp [intOf]; omega
    · obtain rfl : n = k := by omega
      gi_wp2
      go_end0
      exact ⟨⟨_, rfl⟩, xs, by rw [hxs.out, List.take_of_length_le (Nat.le_of_eq hlq)], hJs⟩
end Go.Proofs.YtaodjnkjjmhecaaGreatDoor
