/- Contracts and plain words that the laws' proofs stand on. -/
import Derived.DeepKeys4
import Derived.RangeFuncNested
import Derived.RangeFuncBound
import Derived.RangeFuncCalls
import Derived.RangeFuncLeaves
import Derived.Shelf.Abstract
import Derived.Shelf.RegionOpen
import Derived.OwnWalkIn
import Derived.TacticsInMore
import Derived.LoopNIn
import Derived.LoopIn
import Derived.Sort.Grow
import Derived.Lib.IndexMore
import Derived.Lib.Strings
import Derived.Lib.IndexAny
import Derived.Sort.MapsRangeIn
import Derived.Maps.Views
import Derived.Maps.RangeWalk
import Derived.Shelf.SlSortCmp.InsertionK
import Derived.Shelf.GgSortFunc.Slice
import Derived.Deep.LoopGhost
import Derived.Sort.WalkA
import Derived.Sort.WalkA6
import Derived.Sort.WalkB2
import Derived.Sort.WalkB3
import Derived.Sort.WalkC
import Derived.Sort.LotA
import Derived.Sort.LotC
import Derived.Shelf.SlSortCmp.QuietGrown
import Derived.Shelf.GgSortFunc.Tiny
import Derived.Shelf.SlSortFuncK.BreakPatternsK
import Derived.Sort.Walk13
import Derived.Sort.Walk13a
import Derived.Sort.AssemblyPlain
import Derived.Sort.Walk11
import Derived.Sort.LotD1
import Derived.Sort.LotD4
import Derived.Sort.WalkC4
import Derived.Test.YtaodjnkjjmhecaaGreatDoorLibAA
namespace Go.Proofs.YtaodjnkjjmhecaaGreatDoor
open Go.RowKit Go.WideMaps
set_option linter.unusedVariables false
theorem laidOutKK : laidOutB Tryz.prog = true := by kernel_rfl
theorem lawKeyK : KeyLaw Tryz.prog 39 := deep_law_laid laidOutKK (m := 4) (by omega) (of_decide_eq_true (by kernel_rfl)) (by kernel_rfl) (by kernel_rfl)
theorem keyedKey : Go.Maps.Keyed Tryz.prog 39 := Go.Maps.Keyed.of_law lawKeyK
def keyK (a b c : List UInt8) : Lit := .string (keyBytes [.string a, .string b, .string c])
set_option maxRecDepth 100000 in
theorem key_key {a b c : List UInt8} (ha : a.length ≤ maxLen) (hb : b.length ≤ maxLen) (hc : c.length ≤ maxLen) : keyOf Tryz.prog 39 (.agg #[.string (str a), .string (str b), .string (str c)]) = some (keyK a b c) := by
  have w1 : (str a).size ≤ maxLen := by rw [str_size]; exact ha
  have w2 : (str b).size ≤ maxLen := by rw [str_size]; exact hb
  have w3 : (str c).size ≤ maxLen := by rw [str_size]; exact hc
  have hk : Tryz.prog.keyType 39 = true := by kernel_rfl
  obtain ⟨m, hm⟩ : ∃ m, Tryz.prog.types.size = m + 2 := ⟨Tryz.prog.types.size - 2, by kernel_rfl⟩
  have h1 : Tryz.prog.cellsOf 39 = 3 := by kernel_rfl
  have h2 : Tryz.prog.cellsOf 9 = 1 := by kernel_rfl
  have hf : (Value.agg #[.string (str a), .string (str b), .string (str c)]).formed Tryz.prog 39 = true := by simp [Value.formed, Tryz.underlying39, h1]
  have hl : Tryz.prog.keyLits (Tryz.prog.types.size + 1) 39 [.string (str a), .string (str b), .string (str c)] = some [.string a, .string b, .string c] := by
    rw [hm]
    simp [Program.keyLits, Tryz.underlying39, Tryz.underlying9, h1, h2, w1, w2, w3]
    exact ⟨by simp [str], by simp [str], by simp [str]⟩
  unfold keyOf
  rw [Tryz.underlying39]
  simp only [hk, hf]
  show Option.map _ (Tryz.prog.keyLits _ _ [.string (str a), .string (str b), .string (str c)]) = _
  rw [hl]
  rfl
theorem keyK_inj {a b c x y z : List UInt8} (ha : a.length ≤ maxLen) (hb : b.length ≤ maxLen) (hc : c.length ≤ maxLen) (hx : x.length ≤ maxLen) (hy : y.length ≤ maxLen) (hz : z.length ≤ maxLen) (h : keyK a b c = keyK x y z) : a = x ∧ b = y ∧ c = z := by
  have e := keyedKey.inj (key_key ha hb hc) (h ▸ key_key hx hy hz)
  simp only [Value.agg.injEq, Array.mk.injEq, List.cons.injEq, Value.string.injEq, and_true] at e
  exact ⟨str_inj e.1, str_inj e.2.1, str_inj e.2.2⟩
theorem laidOutA : laidOutB Tryz.prog = true := by kernel_rfl
theorem lawActor : KeyLaw Tryz.prog 33 := deep_law_laid laidOutA (m := 4) (by omega) (of_decide_eq_true (by kernel_rfl)) (by kernel_rfl) (by kernel_rfl)
theorem keyedActor : Go.Maps.Keyed Tryz.prog 33 := Go.Maps.Keyed.of_law lawActor
def keyA (d i : Int) : Lit := .string (keyBytes [.int .i64 d, .int .i64 i])
theorem is64_wf {n : Int} : is64 n ↔ (Lit.int .i64 n).wf = true := by
  show (IntKind.i64.min ≤ n ∧ n ≤ IntKind.i64.max) ↔ _
  simp only [Lit.wf, Bool.and_eq_true, decide_eq_true_eq]
set_option maxRecDepth 100000 in
theorem key_actor {d i : Int} (hd : is64 d) (hi : is64 i) : keyOf Tryz.prog 33 (.agg #[.int .i64 d, .int .i64 i]) = some (keyA d i) := by
  have w1 := is64_wf.1 hd
  have w2 := is64_wf.1 hi
  have hk : Tryz.prog.keyType 33 = true := by kernel_rfl
  obtain ⟨m, hm⟩ : ∃ m, Tryz.prog.types.size = m + 1 := ⟨Tryz.prog.types.size - 1, by kernel_rfl⟩
  have hc2 : Tryz.prog.cellsOf 33 = 2 := by kernel_rfl
  have hc3 : Tryz.prog.cellsOf 3 = 1 := by kernel_rfl
  have hf : (Value.agg #[.int .i64 d, .int .i64 i]).formed Tryz.prog 33 = true := by simp [Value.formed, Tryz.underlying33, hc2]
  have hl : Tryz.prog.keyLits (Tryz.prog.types.size + 1) 33 [.int .i64 d, .int .i64 i] = some [.int .i64 d, .int .i64 i] := by
    rw [hm]
    simp [Program.keyLits, Tryz.underlying33, Tryz.underlying3, hc2, hc3, w1, w2]
  unfold keyOf
  rw [Tryz.underlying33]
  simp only [hk, hf]
  show Option.map _ (Tryz.prog.keyLits _ _ [.int .i64 d, .int .i64 i]) = _
  rw [hl]
  rfl
theorem keyA_inj {d i e j : Int} (hd : is64 d) (hi : is64 i) (he : is64 e) (hj : is64 j) (h : keyA d i = keyA e j) : d = e ∧ i = j := by
  have e := keyedActor.inj (key_actor hd hi) (h ▸ key_actor he hj)
  simpa only [Value.agg.injEq, Array.mk.injEq, List.cons.injEq, Value.int.injEq, true_and, and_true] using e
set_option maxRecDepth 100000 in
theorem key_actor_inv {key : Value} {kl : Lit} (h : keyOf Tryz.prog 33 key = some kl) : ∃ d i, is64 d ∧ is64 i ∧ key = .agg #[.int .i64 d, .int .i64 i] ∧ kl = keyA d i := by
  obtain ⟨m, hm⟩ : ∃ m, Tryz.prog.types.size = m + 1 := ⟨Tryz.prog.types.size - 1, by kernel_rfl⟩
  have hc2 : Tryz.prog.cellsOf 33 = 2 := by kernel_rfl
  have hc3 : Tryz.prog.cellsOf 3 = 1 := by kernel_rfl
  have h0 := h
  unfold keyOf at h
  rw [Tryz.underlying33] at h
  dsimp only at h
  split at h
  case isFalse => cases h
  case isTrue hh =>
    rw [Bool.and_eq_true] at hh
    have hf := hh.2
    cases key
    case agg cs =>
      obtain ⟨l⟩ := cs
      have hs : l.length = 2 := by simpa [Value.formed, Tryz.underlying33, hc2] using hf
      match l, hs with
      | [x, y], _ =>
        cases hl : Tryz.prog.keyLits (Tryz.prog.types.size + 1) 33 (Value.agg #[x, y]).cells.toList with
        | none => rw [hl] at h; cases h
        | some ls =>
          rw [hm] at hl
          have hxy : ∃ d i, is64 d ∧ is64 i ∧ x = .int .i64 d ∧ y = .int .i64 i := by
            simp only [is64_wf]
            clear h h0 hh hf
            cases x with
            | int q1 n1 =>
              by_cases a1 : q1 = .i64 ∧ (Lit.int .i64 n1).wf = true
              · cases y with
                | int q2 n2 =>
                  by_cases a2 : q2 = .i64 ∧ (Lit.int .i64 n2).wf = true
                  · exact ⟨n1, n2, a1.2, a2.2, by rw [a1.1], by rw [a2.1]⟩
                  · exfalso; simp [Program.keyLits, Value.cells, Tryz.underlying33, Tryz.underlying3, hc2, hc3, a1, a2] at hl
                | _ => exfalso; simp [Program.keyLits, Value.cells, Tryz.underlying33, Tryz.underlying3, hc2, hc3, a1] at hl
              · exfalso; simp [Program.keyLits, Value.cells, Tryz.underlying33, Tryz.underlying3, hc2, hc3, a1] at hl
            | _ => exfalso; simp [Program.keyLits, Value.cells, Tryz.underlying33, Tryz.underlying3, hc2, hc3] at hl
          obtain ⟨d, i, hd, hi, rfl, rfl⟩ := hxy
          refine ⟨d, i, hd, hi, rfl, ?_⟩
          rw [key_actor hd hi] at h0
          exact (Option.some.inj h0).symm
    all_goals simp [Value.formed, Tryz.underlying33] at hf
end Go.Proofs.YtaodjnkjjmhecaaGreatDoor
namespace Go.Proofs.YtaodjnkjjmhecaaGreatDoor
open Go.RowKit
set_option linter.unusedVariables false
set_option maxRecDepth 100000 in
theorem dotActorC0 (d i : Int) (w : World) :
    Calls Tryz.prog 147 #[.agg #[.int .i64 d, .int .i64 i]] w fun e w' => e = .returned (.bool (actorD d i)) ∧ Below w.heap.size w w' := by
  have o1 := ObjAt.new w #[.int .i64 d, .int .i64 i] 33
  have hb := below_alloc w (.cells #[.int .i64 d, .int .i64 i] 33)
  have u0 := o1.cell 0 rfl; have u1 := o1.cell 1 rfl
  clear o1
  unfold actorD
  by_cases q0 : 0 ≤ d
  · have d0 : decide (0 ≤ d) = true := decide_eq_true q0
    by_cases q1 : d ≤ 63
    · have d1 : decide (d ≤ 63) = true := decide_eq_true q1
      by_cases q2 : 1 ≤ i
      · have d2 : decide (1 ≤ i) = true := decide_eq_true q2
        by_cases q3 : i ≤ 1048576
        · have d3 : decide (i ≤ 1048576) = true := decide_eq_true q3
          go_enter Tryz.func147, Tryz.ntmps147
          go_wp2
          go_ret
          exact ⟨by simp [*], hb⟩
        · have d3 : decide (i ≤ 1048576) = false := decide_eq_false q3
          go_enter Tryz.func147, Tryz.ntmps147
          go_wp2
          go_ret
          exact ⟨by simp [*], hb⟩
      · have d2 : decide (1 ≤ i) = false := decide_eq_false q2
        go_enter Tryz.func147, Tryz.ntmps147
        go_wp2
        go_ret
        exact ⟨by simp [*], hb⟩
    · have d1 : decide (d ≤ 63) = false := decide_eq_false q1
      go_enter Tryz.func147, Tryz.ntmps147
      go_wp2
      go_ret
      exact ⟨by simp [*], hb⟩
  · have d0 : decide (0 ≤ d) = false := decide_eq_false q0
    go_enter Tryz.func147, Tryz.ntmps147
    go_wp2
    go_ret
    exact ⟨by simp [*], hb⟩
set_option maxRecDepth 100000 in
theorem dotRightC0 (x : DotN) (w : World) :
    Calls Tryz.prog 109 #[.agg #[.int .i64 x.dev, .int .i64 x.inc, .int .i64 x.seq]] w fun e w' => e = .returned (.bool (rightD x)) ∧ Below w.heap.size w w' := by
  have o1 := ObjAt.new w #[.int .i64 x.dev, .int .i64 x.inc, .int .i64 x.seq] 35
  have hb := below_alloc w (.cells #[.int .i64 x.dev, .int .i64 x.inc, .int .i64 x.seq] 35)
  have u0 := o1.cell 0 rfl; have u1 := o1.cell 1 rfl
  have HA := fun v => dotActorC0 x.dev x.inc v
  unfold rightD
  generalize actorD x.dev x.inc = A at *
  cases A with
  | false =>
    go_enter Tryz.func109, Tryz.ntmps109
    go_wp2_with (go_at_call 147; (with_reducible refine (HA _).mono ?_); rintro e w1 ⟨rfl, hx⟩; have hb := hb.trans (hx.mono hb.size))
    go_ret
    exact ⟨rfl, hb⟩
  | true =>
    by_cases q0 : 1 ≤ x.seq
    · have d0 : decide (1 ≤ x.seq) = true := decide_eq_true q0
      by_cases q1 : x.seq ≤ 4294967296
      · have d1 : decide (x.seq ≤ 4294967296) = true := decide_eq_true q1
        go_enter Tryz.func109, Tryz.ntmps109
        go_wp2_with (first
          | (go_at_call 147; (with_reducible refine (HA _).mono ?_); rintro e w1 ⟨rfl, hx⟩; have o2 := o1.below hx o1.lt; have v2 := o2.cell 2 rfl; have hb := hb.trans (hx.mono hb.size); clear hx))
        go_ret
        exact ⟨by simp [*], hb⟩
      · have d1 : decide (x.seq ≤ 4294967296) = false := decide_eq_false q1
        go_enter Tryz.func109, Tryz.ntmps109
        go_wp2_with (first
          | (go_at_call 147; (with_reducible refine (HA _).mono ?_); rintro e w1 ⟨rfl, hx⟩; have o2 := o1.below hx o1.lt; have v2 := o2.cell 2 rfl; have hb := hb.trans (hx.mono hb.size); clear hx))
        go_ret
        exact ⟨by simp [*], hb⟩
    · have d0 : decide (1 ≤ x.seq) = false := decide_eq_false q0
      go_enter Tryz.func109, Tryz.ntmps109
      go_wp2_with (first
        | (go_at_call 147; (with_reducible refine (HA _).mono ?_); rintro e w1 ⟨rfl, hx⟩; have o2 := o1.below hx o1.lt; have v2 := o2.cell 2 rfl; have hb := hb.trans (hx.mono hb.size); clear hx))
      go_ret
      exact ⟨by simp [*], hb⟩
end Go.Proofs.YtaodjnkjjmhecaaGreatDoor
namespace Go.Proofs.YtaodjnkjjmhecaaGreatDoor
open Go.RowKit Go.Shelf
set_option linter.unusedVariables false
def sysObj : Obj → Bool
  | .cells .. => false
  | .map .. => false
  | _ => true
structure StaysG (G : Nat → Prop) (W W' : World) : Prop where
  size : W.heap.size ≤ W'.heap.size
  same : ∀ k o, W.heap[k]? = some o → (G k ∨ sysObj o = true) → W'.heap[k]? = some o
theorem StaysG.ofBelow {G : Nat → Prop} {W W' : World} (hb : Below W.heap.size W W') : StaysG G W W' :=
  ⟨hb.size, fun k o hk _ => (hb.block k (Array.getElem?_eq_some_iff.1 hk).1).trans hk⟩
theorem StaysG.ofKeeps {F G : Nat → Prop} {W W' : World} (hk : Keeps F W W') (hu : ∀ k o, F k → W.heap[k]? = some o → sysObj o = false) (hd : ∀ k, G k → ¬ F k) : StaysG G W W' := by
  refine ⟨hk.size, fun k o ho hs => (hk.block k (Array.getElem?_eq_some_iff.1 ho).1 fun hF => ?_).trans ho⟩
  rcases hs with hs | hs
  · exact hd k hs hF
  · rw [hu k o hF ho] at hs
    cases hs
structure SysStep (B : Nat) (W W' : World) : Prop where
  os : W'.os = W.os
  tape : W'.tape = W.tape
  output : W'.output = W.output
  size : W.heap.size ≤ W'.heap.size
  same : ∀ k o, W.heap[k]? = some o → (k < B ∨ sysObj o = false) → W'.heap[k]? = some o
theorem SysStep.trans {B : Nat} {W X Y : World} (h : SysStep B W X) (k : SysStep B X Y) : SysStep B W Y :=
  ⟨k.os.trans h.os, k.tape.trans h.tape, k.output.trans h.output, Nat.le_trans h.size k.size, fun i o hi ho => k.same i o (h.same i o hi ho) ho⟩
theorem SysStep.ofBelow {B : Nat} {W W' : World} (hb : Below W.heap.size W W') : SysStep B W W' :=
  ⟨hb.os, hb.tape, hb.output, hb.size, fun k o hk _ => (hb.block k (Array.getElem?_eq_some_iff.1 hk).1).trans hk⟩
theorem SysStep.alloc (B : Nat) (W : World) (o : Obj) : SysStep B W (W.alloc o) := .ofBelow (below_alloc W o)
theorem SysStep.put {B : Nat} {W : World} {l : Nat} {o : Obj} (hl : B ≤ l) (h : W.heap[l]? = some o) (hs : sysObj o = true) (o' : Obj) : SysStep B W (W.putObj l o') := by
  refine ⟨rfl, rfl, rfl, by simp, fun k u hk hu => ?_⟩
  by_cases e : k = l
  · subst e
    rw [h] at hk
    cases hk
    rcases hu with c | c
    · omega
    · rw [hs] at c
      cases c
  · exact (World.putObj_heap_other e).trans hk
theorem SysStep.grown {B : Nat} {W W' : World} {row : Option Nat} (hg : W.grownBy W' row) (hr : ∀ r, row = some r → B ≤ r ∧ ∃ o : Obj, W.heap[r]? = some o ∧ sysObj o = true) : SysStep B W W' := by
  refine ⟨hg.os, hg.tape, hg.output, hg.size, fun k u hk hu => (hg.block k (Array.getElem?_eq_some_iff.1 hk).1 fun e => ?_).trans hk⟩
  obtain ⟨h1, o, h2, h3⟩ := hr k e.symm
  rw [h2] at hk
  cases hk
  rcases hu with c | c
  · omega
  · rw [h3] at c
    cases c
theorem SysStep.mono {B C : Nat} {W W' : World} (h : SysStep C W W') (hBC : B ≤ C) : SysStep B W W' :=
  ⟨h.os, h.tape, h.output, h.size, fun k o hk hs => h.same k o hk (hs.imp (fun c => Nat.lt_of_lt_of_le c hBC) id)⟩
theorem SysStep.keeps {B : Nat} {W W' : World} (h : SysStep B W W') : Keeps (fun k => B ≤ k ∧ ∃ o, W.heap[k]? = some o ∧ sysObj o = true) W W' := by
  refine ⟨h.os, h.tape, h.output, h.size, fun k hk hn => ?_⟩
  obtain ⟨o, ho⟩ : ∃ o, W.heap[k]? = some o := ⟨W.heap[k], Array.getElem?_eq_getElem hk⟩
  rw [ho]
  refine h.same k o ho ?_
  cases hs : sysObj o with
  | false => exact .inr rfl
  | true => exact .inl (Nat.lt_of_not_le fun c => hn ⟨c, o, ho, hs⟩)
theorem SysStep.below {B C : Nat} {W W' : World} (h : SysStep B W W') (hC : C ≤ B) (hW : C ≤ W.heap.size) : Below C W W' :=
  h.keeps.below hW fun k _ hk => Nat.le_trans hC hk.1
def EachOf {α : Type} (F : Fence) (n : Nat) (P : Program) (gf : Nat) (lb : Array Value) (encs : α → Array Value) (G : Nat → Prop) (T S : List α → Prop) (w : World) : Prop :=
  ∀ (l : Nat) (J : List α → World → Prop) (W : World), Below w.heap.size w W → (∀ pre A B, SysStep W.heap.size A B → J pre A → J pre B) →
    (∀ pre x W1, J pre W1 → T (pre ++ [x]) → YieldAt F (n - 1) P l (encs x) W1 fun e W' => e = .returned (.bool true) ∧ J (pre ++ [x]) W' ∧ StaysG G W1 W') → J [] W →
    CallsIn F n P gf (#[.func (.yield l) #[] #[]] ++ lb) W fun e W' => (∃ v, e = .returned v) ∧ ∃ xs, S xs ∧ J xs W'
theorem wpIn_forEach {α : Type} {F : Fence} {n : Nat} {P : Program} {g : Operand} {ps : Array Tmp} {assign body : Code} {Q : Exit → Act → World → Prop} {a : Act} {w : World}
    (hro : F.round = none) (h1 : 1 ≤ n) {gf : Nat} {lb : Array Value} (hg : a.eval g = .func (.func gf) #[] lb) (hFg : F.fn gf) (eg : ∀ args w, (callFunc gf args).run P w = .ok (.enter gf args) w)
    {encs : α → Array Value} {G : Nat → Prop} {T S : List α → Prop} {w0 : World} (hit : EachOf F (n - 1) P gf lb encs G T S w0) (hw0 : Below w0.heap.size w0 w) (hps : ∀ x, (encs x).size = ps.size)
    (I : List α → World → Prop) (hI : ∀ pre A B, SysStep w.heap.size A B → I pre A → I pre B) (h0 : I [] w)
    (Ax : α → Act → World → Prop) (hAx : ∀ x a' A B, SysStep w.heap.size A B → Ax x a' A → Ax x a' B)
    (hassign : ∀ l pre x W, w.heap.size ≤ W.heap.size → I pre W → assign.wpIn (F.inRound l) (n - 1 - 1) P (Exit.then (fun a' W' => StaysG G W W' ∧ I pre W' ∧ Ax x a' W') (fun _ _ _ => False)) { tmps := (ps.zip (encs x)).foldl (fun t (p, v) => t.setIfInBounds p v) a.tmps, defers := [] } W)
    (hbody : ∀ l pre x a' W, T (pre ++ [x]) → I pre W → Ax x a' W → body.wpIn (F.inRound l) (n - 1 - 1) P (fun e _ W' => e = .normal ∧ StaysG G W W' ∧ I (pre ++ [x]) W') a' W)
    (hdone : ∀ D xs W, w.heap.size ≤ D → S xs → I xs W → W.heap[D]? = some (.deferred (some [])) → Q .normal { a with defers := { target := .collected D, args := #[] } :: a.defers } W) :
    (Code.rangeFunc g ps assign body).wpIn F n P Q a w := by
  refine wpIn_rangeFunc fun fn hfn => ?_
  rw [hro]
  obtain ⟨rc, hrc⟩ : ∃ rc : LoopState → Option Code → Loop, rc = fun st pe => { state := st, pending := pe, fn, tmps := a.tmps, params := ps, assign, body, defers := w.heap.size } := ⟨_, rfl⟩
  obtain ⟨B, hB⟩ : ∃ B, w.heap.size = B := ⟨_, rfl⟩
  obtain ⟨W1, hW1⟩ : ∃ W1, (w.alloc (.deferred (some []))).alloc (.loop (rc .ready none)) = W1 := ⟨_, rfl⟩
  have hL1 : W1.heap[B + 1]? = some (.loop (rc .ready none)) := by
    rw [← hW1, ← hB]
    have := World.alloc_heap_new (w.alloc (.deferred (some []))) (.loop (rc .ready none))
    rwa [World.size_alloc] at this
  have hK1 : W1.heap[B]? = some (.deferred (some [])) := by
    rw [← hW1, ← hB]
    exact (Below.heap_alloc _ _ _ (by simp)).trans (World.alloc_heap_new w _)
  have hs1 : SysStep w.heap.size w W1 := hW1 ▸ (SysStep.alloc _ _ _).trans (SysStep.alloc _ _ _)
  have hb1 : Below w0.heap.size w0 W1 := hw0.trans (hs1.below hw0.size hw0.size)
  have hz1 : B + 1 < W1.heap.size := (Array.getElem?_eq_some_iff.1 hL1).1
  refine ⟨B + 1, [{ target := .collected B, args := #[] }], W1, { target := .fn (.func gf) lb, args := #[.func (.yield (B + 1)) #[] #[]] }, W1, gf, #[.func (.yield (B + 1)) #[] #[]] ++ lb, W1, ?_, ?_, ?_, ?_, fun _ => h1, ?_⟩
  · rw [← hW1, hrc, ← hB]
    exact run_enterLoop_outer _ _ _ _ _
  · simp only [resolve, hg]
    simp [go_sem]
  · intro f' hf'
    simp [Target.leads] at hf'
    subst hf'
    exact hFg
  · simp [invoke, go_sem, eg]
  · have hst : ∀ {X Y : World} {k : Nat} {o : Obj}, StaysG G X Y → X.heap[k]? = some o → sysObj o = true → Y.heap[k]? = some o := fun h hk ho => h.same _ _ hk (.inr ho)
    refine (hit (B + 1) (fun pre W => I pre W ∧ w.heap.size ≤ W.heap.size ∧ W.heap[B + 1]? = some (.loop (rc .ready none)) ∧ W.heap[B]? = some (.deferred (some []))) W1 hb1 ?_ ?_ ⟨hI _ _ _ hs1 h0, hs1.size, hL1, hK1⟩).mono ?_
    · rintro pre X Y hs ⟨hi, hsz, hl, hk⟩
      exact ⟨hI _ _ _ (hs.mono (by omega)) hi, Nat.le_trans hsz hs.size, hs.same _ _ hl (.inl hz1), hs.same _ _ hk (.inl (by omega))⟩
    · rintro pre x W ⟨hi, hsz, hl, hk⟩ hT
      have hy := run_yield (P := P) (args := encs x) hl (by rw [hrc]; exact hps x)
      rw [hrc] at hy
      refine ⟨fn, _, assign, body, hy, roundIn_of_wpIn hfn (Go.wpIn_mono (hassign (B + 1) pre x W hsz hi) fun e a' Wa hp => ?_)⟩
      cases e with
      | normal =>
        obtain ⟨ha, hia, hxa⟩ := hp
        have hla := hst ha hl rfl
        have hka := hst ha hk rfl
        refine ⟨_, run_beginRound hla (by rw [hrc]), ?_⟩
        have hlt : B + 1 < Wa.heap.size := (Array.getElem?_eq_some_iff.1 hla).1
        have hsp : SysStep w.heap.size Wa (Wa.putObj (B + 1) (.loop { rc .ready none with state := .busy })) := SysStep.put (by omega) hla rfl _
        have hl2 : (Wa.putObj (B + 1) (.loop { rc .ready none with state := .busy })).heap[B + 1]? = some (.loop { rc .ready none with state := .busy }) := World.putObj_heap_same hlt
        have hk2 : (Wa.putObj (B + 1) (.loop { rc .ready none with state := .busy })).heap[B]? = some (.deferred (some [])) := (World.putObj_heap_other (by omega)).trans hka
        refine Go.wpIn_mono (hbody (B + 1) pre x a' _ hT (hI _ _ _ hsp hia) (hAx _ _ _ _ hsp hxa)) fun e2 a2 W3 hp3 => ?_
        obtain ⟨rfl, h3, hi3⟩ := hp3
        have hsz3 := h3.size
        rw [World.putObj_size] at hsz3
        have hl3 := hst h3 hl2 rfl
        have hk3 := hst h3 hk2 rfl
        have hlt3 : B + 1 < W3.heap.size := (Array.getElem?_eq_some_iff.1 hl3).1
        have hr := run_endRound (P := P) none hl3
        refine ⟨_, _, hr, rfl, ⟨hI _ _ _ (SysStep.put (by omega) hl3 rfl _) hi3, ?_, ?_, (World.putObj_heap_other (by omega)).trans hk3⟩, ?_⟩
        · rw [World.putObj_size]
          have := ha.size
          omega
        · rw [World.putObj_heap_same hlt3, hrc]
          rfl
        · refine ⟨by rw [World.putObj_size]; have := ha.size; omega, fun k o ho hg => ?_⟩
          by_cases e : k = B + 1
          · subst e
            rw [hl] at ho
            cases ho
            rw [World.putObj_heap_same hlt3, hrc]
            rfl
          · rw [World.putObj_heap_other e]
            refine h3.same k o ?_ hg
            rw [World.putObj_heap_other e]
            exact ha.same k o ho hg
      | _ => exact hp.elim
    · rintro e W2 ⟨⟨v, rfl⟩, xs, hS, hi, hsz, hl, hk⟩
      refine ⟨none, _, by have := run_endLoop (P := P) hl (by rw [hrc]; simp); rw [hrc] at this; exact this, ?_⟩
      refine hdone _ xs _ (Nat.le_of_eq hB) hS (hI _ _ _ (SysStep.put (by omega) hl rfl _) hi) ((World.putObj_heap_other (by omega)).trans hk)
end Go.Proofs.YtaodjnkjjmhecaaGreatDoor
namespace Go.Proofs.YtaodjnkjjmhecaaGreatDoor
open Go.RowKit
open Go.ChangeMaps Go.MapKept Go.WideShapes
open Go.Maps (Keyed)
set_option linter.unusedVariables false
theorem Keeps.ofTurned {w w' : World} {b : Nat} (h : w.mapTurned w' b) : Keeps (fun k => k = b) w w' := by
  obtain ⟨es, cl, es', cl', hb, rfl⟩ := h
  refine ⟨rfl, rfl, rfl, by simp [setBlock], fun i _ hi => heap_setBlock_other hb _ hi⟩
theorem step_mapUpdate {H : Type} {P : Program} {w : World} {ops : Array Oper} {o : Oper} {a : Act} {K : Act → World → Prop} {E : Prop} {Q : Exit → Act → World → Prop} (hgd : o.guard = none) (m x v : Operand) (t : TypeId) (hop : o.op = Op.mapUpdate t m x v)
    (k e : TypeId) (Kd : Keyed P k) (ht : P.underlying t = some (.map k e)) (R : Value → Option (DataW H × List MemPlace)) (b n : Nat) (D : DataW H)
    (hm : a.eval m = .map (some b)) (hown : w.ownsMap P k R b n D) (hn : n < maxLen) (key val : Value) (kl : Lit) (hx : a.eval x = key) (hv : a.eval v = val) (hkey : keyOf P k key = some kl)
    (d : DataW H) (ps : List MemPlace) (hval : R val = some (d, ps))
    (h : ∀ w', w'.ownsMap P k R b (n + 1) (D.put kl d) → Keeps (fun k => k = b) w w' → K (a.put o.dst undef) w') : if Region.wanted o (yielded ops a.tmps) = true then Oper.wp P o a w K Q else E := by
  rw [if_pos (by simp [Region.wanted, hgd])]
  obtain ⟨w', hrun, r1, r2⟩ := hown.store Kd ht hn hkey hval
  unfold Oper.wp
  simp [execOp, hop, hm, hx, hv, hrun, Result.andThen]
  exact h w' r1 (Keeps.ofTurned r2)
theorem step_delete {H : Type} {P : Program} {w : World} {ops : Array Oper} {o : Oper} {a : Act} {K : Act → World → Prop} {E : Prop} {Q : Exit → Act → World → Prop} (hgd : o.guard = none) (m x : Operand) (t k : TypeId) (hop : o.op = Op.call { callee := Callee.builtin Builtin.delete, args := #[m, x], argTypes := #[t, k] })
    (e : TypeId) (Kd : Keyed P k) (ht : P.underlying t = some (.map k e)) (R : Value → Option (DataW H × List MemPlace)) (b n : Nat) (D : DataW H)
    (hm : a.eval m = .map (some b)) (hown : w.ownsMap P k R b n D) (key : Value) (kl : Lit) (hx : a.eval x = key) (hkey : keyOf P k key = some kl)
    (h : ∀ w', w'.ownsMap P k R b n (D.del kl) → Keeps (fun k => k = b) w w' → K (a.put o.dst (.tuple #[])) w') : if Region.wanted o (yielded ops a.tmps) = true then Oper.wp P o a w K Q else E := by
  rw [if_pos (by simp [Region.wanted, hgd])]
  obtain ⟨w', hrun, r1, r2⟩ := hown.drop Kd ht hkey o.type
  unfold Oper.wp
  simp [execOp, hop, resolve, invoke, builtin, hm, hx, hrun, Result.andThen]
  exact h w' r1 (Keeps.ofTurned r2)
theorem step_deleteNil {P : Program} {w : World} {ops : Array Oper} {o : Oper} {a : Act} {K : Act → World → Prop} {E : Prop} {Q : Exit → Act → World → Prop} (hgd : o.guard = none) (m x : Operand) (t k : TypeId) (hop : o.op = Op.call { callee := Callee.builtin Builtin.delete, args := #[m, x], argTypes := #[t, k] })
    (e : TypeId) (Kd : Keyed P k) (ht : P.underlying t = some (.map k e)) (hm : a.eval m = .map none) (key : Value) (kl : Lit) (hx : a.eval x = key) (hkey : keyOf P k key = some kl)
    (h : K (a.put o.dst (.tuple #[])) w) : if Region.wanted o (yielded ops a.tmps) = true then Oper.wp P o a w K Q else E := by
  rw [if_pos (by simp [Region.wanted, hgd])]
  have hrun := Go.Maps.drop_nil (P := P) (w := w) Kd ht hkey o.type
  unfold Oper.wp
  simp [execOp, hop, resolve, invoke, builtin, hm, hx, hrun, Result.andThen]
  exact h
theorem exec_look {P : Program} {w : World} {o : Oper} {a : Act} (m x : Operand) (t : TypeId) (c : Bool) (hop : o.op = Op.lookup t m x c) (mv : Option Nat) (hm : a.eval m = .map mv) (key : Value) (hx : a.eval x = key) {v : Value} (hr : (Instr.lookup t (.map mv) key c).run P w = .ok v w) :
    (execOp a.eval o).run P w = .ok (.value v) w := by
  simp [execOp, hop, hm, hx, hr, Result.andThen]
theorem held_look {P : Program} {k : TypeId} {w : World} {b n : Nat} {D : DataW Value} (hown : w.ownsMap P k heldElem b n D) (K : Keyed P k) {t e : TypeId} (ht : P.underlying t = some (.map k e)) {z : Value} (hz : (zeroValue e).run P w = .ok z w) {key : Value} {kl : Lit} (hkey : keyOf P k key = some kl) {c : Option Value} (hc : HeldAt D kl c) :
    (Instr.lookup t (.map (some b)) key false).run P w = .ok (c.getD z) w ∧ (Instr.lookup t (.map (some b)) key true).run P w = .ok (.tuple #[c.getD z, .bool c.isSome]) w := by
  obtain ⟨es, clock, hb, F, _, rfl⟩ := hown
  constructor
  · rcases Go.Maps.fit_look false K ht hz hb F hkey with ⟨hrun, _, hat⟩ | ⟨e0, y, _, _, hrun, hRv, hat, _⟩
    · have h1 := hc.has
      rw [Go.Maps.has_false_of_atKey hat] at h1
      cases c with
      | none => exact hrun
      | some u => simp at h1
    · have h1 := hc.has
      rw [Go.Maps.has_true_of_atKey hat] at h1
      cases c with
      | none => simp at h1
      | some u =>
        have h2 := (hc.at_ u rfl .nil).symm.trans (hat .nil)
        have h3 := held_inv (d := y.1) (ps := y.2) hRv
        rw [h3] at h2
        cases h2
        exact hrun
  · rcases Go.Maps.fit_look true K ht hz hb F hkey with ⟨hrun, _, hat⟩ | ⟨e0, y, _, _, hrun, hRv, hat, _⟩
    · have h1 := hc.has
      rw [Go.Maps.has_false_of_atKey hat] at h1
      cases c with
      | none => exact hrun
      | some u => simp at h1
    · have h1 := hc.has
      rw [Go.Maps.has_true_of_atKey hat] at h1
      cases c with
      | none => simp at h1
      | some u =>
        have h2 := (hc.at_ u rfl .nil).symm.trans (hat .nil)
        have h3 := held_inv (d := y.1) (ps := y.2) hRv
        rw [h3] at h2
        cases h2
        exact hrun
end Go.Proofs.YtaodjnkjjmhecaaGreatDoor
namespace Go.Proofs.YtaodjnkjjmhecaaGreatDoor
open Go.RowKit Go.WideMaps
set_option linter.unusedVariables false
set_option maxRecDepth 100000 in
theorem key_key_inv {key : Value} {kl : Lit} (h : keyOf Tryz.prog 39 key = some kl) : ∃ a b c : List UInt8, a.length ≤ maxLen ∧ b.length ≤ maxLen ∧ c.length ≤ maxLen ∧ key = .agg #[.string (str a), .string (str b), .string (str c)] ∧ kl = keyK a b c := by
  obtain ⟨m, hm⟩ : ∃ m, Tryz.prog.types.size = m + 2 := ⟨Tryz.prog.types.size - 2, by kernel_rfl⟩
  have hc : Tryz.prog.cellsOf 39 = 3 := by kernel_rfl
  have hc2 : Tryz.prog.cellsOf 9 = 1 := by kernel_rfl
  have h0 := h
  unfold keyOf at h
  rw [Tryz.underlying39] at h
  dsimp only at h
  split at h
  case isFalse => cases h
  case isTrue hh =>
    rw [Bool.and_eq_true] at hh
    have hf := hh.2
    cases key
    case agg cs =>
      obtain ⟨l⟩ := cs
      have hs : l.length = 3 := by simpa [Value.formed, Tryz.underlying39, hc] using hf
      match l, hs with
      | [x, y, z], _ =>
        cases hl : Tryz.prog.keyLits (Tryz.prog.types.size + 1) 39 (Value.agg #[x, y, z]).cells.toList with
        | none => rw [hl] at h; cases h
        | some ls =>
          rw [hm] at hl
          have hxy : ∃ a b c : ByteArray, a.size ≤ maxLen ∧ b.size ≤ maxLen ∧ c.size ≤ maxLen ∧ x = .string a ∧ y = .string b ∧ z = .string c := by
            cases x with
            | string s1 =>
              by_cases a1 : s1.size ≤ maxLen
              · cases y with
                | string s2 =>
                  by_cases a2 : s2.size ≤ maxLen
                  · cases z with
                    | string s3 =>
                      by_cases a3 : s3.size ≤ maxLen
                      · exact ⟨s1, s2, s3, a1, a2, a3, rfl, rfl, rfl⟩
                      · exfalso; simp [Program.keyLits, Value.cells, Tryz.underlying39, Tryz.underlying9, hc, hc2, a1, a2, a3] at hl
                    | _ => exfalso; simp [Program.keyLits, Value.cells, Tryz.underlying39, Tryz.underlying9, hc, hc2, a1, a2] at hl
                  · exfalso; simp [Program.keyLits, Value.cells, Tryz.underlying39, Tryz.underlying9, hc, hc2, a1, a2] at hl
                | _ => exfalso; simp [Program.keyLits, Value.cells, Tryz.underlying39, Tryz.underlying9, hc, hc2, a1] at hl
              · exfalso; simp [Program.keyLits, Value.cells, Tryz.underlying39, Tryz.underlying9, hc, hc2, a1] at hl
            | _ => exfalso; simp [Program.keyLits, Value.cells, Tryz.underlying39, Tryz.underlying9, hc, hc2] at hl
          obtain ⟨a, b, c, ha, hb, hcc, rfl, rfl, rfl⟩ := hxy
          obtain ⟨la, rfl⟩ : ∃ l, a = str l := ⟨_, str_of a⟩
          obtain ⟨lb, rfl⟩ : ∃ l, b = str l := ⟨_, str_of b⟩
          obtain ⟨lc, rfl⟩ : ∃ l, c = str l := ⟨_, str_of c⟩
          rw [str_size] at ha hb hcc
          refine ⟨la, lb, lc, ha, hb, hcc, rfl, ?_⟩
          have h9 := key_key ha hb hcc
          rw [h9] at h0
          exact (Option.some.inj h0).symm
    all_goals simp [Value.formed, Tryz.underlying39] at hf
end Go.Proofs.YtaodjnkjjmhecaaGreatDoor
namespace Go.Proofs.YtaodjnkjjmhecaaGreatDoor
open Go.RowKit
set_option linter.unusedVariables false
theorem ObjAt.setRow {w : World} {b : Nat} {vs : List Value} (h : ObjAt w b vs) (A : Array Value) : ObjAt (w.setRow b A) b A.toList := by
  obtain ⟨e, h⟩ := h.heap
  exact ⟨e, by rw [Array.toArray_toList]; exact setRow_heap w b _ A e (0, 0) h⟩
theorem Keeps.setRow {F : Nat → Prop} {w w' : World} (h : Keeps F w w') {g : Nat} (hg : F g) (A : Array Value) : Keeps F w (w'.setRow g A) :=
  ⟨h.os, h.tape, h.output, by rw [setRow_size]; exact h.size, fun k hk hn => (setRow_other w' g k A (fun e => hn (e ▸ hg))).trans (h.block k hk hn)⟩
theorem below_rowSet {B : Nat} {w w' : World} (h : Below B w w') {g : Nat} (hg : B ≤ g) (A : Array Value) : Below B w (w'.setRow g A) :=
  ⟨h.os, h.tape, h.output, by rw [setRow_size]; exact h.size, fun k hk => (setRow_other w' g k A (by omega)).trans (h.block k hk)⟩
theorem wpList_storeOver {P : Program} {ops : Array Oper} {rest : List Oper} {o : Oper} {a : Act} {w : World} {Q : Exit → Act → World → Prop} (hgd : o.guard = none) (ty : TypeId) (x y : Operand) (ho : o.op = .store ty x y) (g : Nat) (vs : List Value) (A : Array Value) (n : Nat)
    (hx : a.eval x = .pointer (some ⟨g, 0, none⟩)) (hy : a.eval y = .agg A) (hg : ObjAt w g vs) (hi : (P.info? ty).map (·.size) = some n) (hold : vs.length = n) (hn : A.size = n) (h1 : A.all (·.oneCell') = true)
    (h : wpList P ops Q rest (a.put o.dst undef) (w.setRow g A)) : wpList P ops Q (o :: rest) a w := by
  obtain ⟨t, ht⟩ := hg.heap
  exact wpList_store_row hgd ty x y ho g A hx hy t vs.toArray ht (by rw [hi, hn]) (by rw [List.size_toArray, hold, hn]) h1 h
theorem loadVarBig {P : Program} {w : World} (ty : TypeId) (g n : Nat) (A : Array Value) (hg : ObjAt w g A.toList) (ha : ∀ w, (isAgg ty).run P w = .ok true w) (hs : ∀ w, (sizeOf ty).run P w = .ok n w) (hn : A.size = n) : (loadVar ty ⟨g, 0, none⟩).run P w = .ok (.agg A) w := by
  have hl := hg.loads (P := P) (n := n) (by simpa using hn)
  rw [Array.toArray_toList] at hl
  unfold loadVar loadCells
  simp only [Sem.run_bind, Sem.run_pure, Result.andThen, ha, hs, hl, if_true]
theorem results_big1 {P : Program} {w : World} {fn : Func} {tmps : Array Value} {a : Tmp} {t : TypeId} {g : Nat} {x : Value} (hr : fn.results = #[.cell a t]) (ha : tmps.getD a undef = .pointer (some ⟨g, 0, none⟩)) (hl : (loadVar t ⟨g, 0, none⟩).run P w = .ok x w) : (results fn tmps).run P w = .ok x w := by
  rw [Array.getD_eq_getD_getElem?] at ha
  simp [results, hr, ha, hl, asAddr]
end Go.Proofs.YtaodjnkjjmhecaaGreatDoor
namespace Go.Proofs.YtaodjnkjjmhecaaGreatDoor
open Go.RowKit Go.Shelf
set_option linter.unusedVariables false
structure LetsAll (F : Fence) : Prop where
  depth : F.depth = none
  fn : ∀ f, F.fn f
  calls : ∀ {n : Nat} {P : Program} {f : FuncId} {args : Array Value} {w : World} {R : Ending → World → Prop}, Calls P f args w R → CallsIn F n P f args w R
  rows : ∀ {n : Nat} {P : Program} {row : String} {args : Array Value} {w : World} {R : Value → World → Prop}, Rows P row args w R → RowsIn F n P row args w R
theorem letsAll_wide : LetsAll Fence.wide :=
  ⟨rfl, fun _ => trivial, fun h => callsIn_wide.2 h, fun h c cs _ => let ⟨v, w', r, s⟩ := h c cs; ⟨v, w', r, stepsIn_wide.2 s⟩⟩
theorem letsAll_round (l : Nat) : LetsAll (Fence.wide.inRound l) :=
  ⟨rfl, fun _ => trivial, fun h => CallsIn.inRound l (callsIn_wide.2 h), fun h => letsAll_wide.rows (n := _) h⟩
theorem wpIn_op {F : Fence} (hF : LetsAll F) {n : Nat} {P : Program} {o : Oper} {a : Act} {w : World} {K : Act → World → Prop} {Q : Exit → Act → World → Prop} (hd : ∀ c, o.op ≠ .defer c) (h : o.wp P a w K Q) : o.wpIn F n P a w K Q := by
  refine ⟨fun f _ => hF.fn f, ?_⟩
  rw [Oper.semAt_plain _ _ _ hd]
  unfold Oper.wp at h
  have hdep : F.depth.isSome = true → 1 ≤ n := by rw [hF.depth]; intro c; cases c
  generalize (execOp a.eval o).run P w = r at *
  cases r with
  | ok nx w' =>
    cases nx with
    | value v => exact h
    | skip => exact h
    | defer d => exact h
    | enter f args => exact ⟨hdep, hF.calls h⟩
    | row row args => exact ⟨hdep, hF.rows h⟩
    | _ => exact h.elim
  | halt hl w' =>
    cases hl with
    | panic v => exact h
    | _ => exact h.elim
theorem wpListIn_by {F : Fence} (hF : LetsAll F) {n : Nat} {P : Program} {ops : Array Oper} {rest : List Oper} {o : Oper} {a : Act} {w : World} {Q : Exit → Act → World → Prop} (hg : o.guard = none) (hd : ∀ c, o.op ≠ .defer c)
    (h : ∀ K : Act → World → Prop, (∀ a w, wpListIn F n P ops Q rest a w → K a w) → o.wp P a w K Q) : wpListIn F n P ops Q (o :: rest) a w :=
  wpListIn_plain hg fun K hK => wpIn_op hF hd (h K hK)
theorem wpListIn_loadAll {F : Fence} (hF : LetsAll F) {n0 : Nat} {P : Program} {ops : Array Oper} {rest : List Oper} {o : Oper} {a : Act} {w : World} {Q : Exit → Act → World → Prop} (hgd : o.guard = none) (ty : TypeId) (x : Operand) (ho : o.op = .load ty x) (g n : Nat) (A : Array Value)
    (hx : a.eval x = .pointer (some ⟨g, 0, none⟩)) (hg : ObjAt w g A.toList) (ha : ∀ w, (isAgg ty).run P w = .ok true w) (hs : ∀ w, (sizeOf ty).run P w = .ok n w) (hn : A.size = n)
    (h : wpListIn F n0 P ops Q rest (a.put o.dst (.agg A)) w) : wpListIn F n0 P ops Q (o :: rest) a w := by
  refine wpListIn_by hF hgd (by rw [ho]; intro c e; cases e) fun K hK => ?_
  have he := execLoadAll (P := P) (o := o) (a := a) ty x ho g n A hx hg ha hs hn
  unfold Oper.wp
  rw [he]
  exact hK _ _ h
theorem wpListIn_loadRow {F : Fence} (hF : LetsAll F) {n0 : Nat} {P : Program} {ops : Array Oper} {rest : List Oper} {o : Oper} {a : Act} {w : World} {Q : Exit → Act → World → Prop} (hgd : o.guard = none) (ty : TypeId) (x : Operand) (ho : o.op = .load ty x) (g q n : Nat) (A : Array Value)
    (hx : a.eval x = .pointer (some ⟨g, q, none⟩)) (hg : CellsAt w g q A.toList) (ha : ∀ w, (isAgg ty).run P w = .ok true w) (hs : ∀ w, (sizeOf ty).run P w = .ok n w) (hn : A.size = n)
    (h : wpListIn F n0 P ops Q rest (a.put o.dst (.agg A)) w) : wpListIn F n0 P ops Q (o :: rest) a w := by
  refine wpListIn_by hF hgd (by rw [ho]; intro c e; cases e) fun K hK => ?_
  have he := execLoadRow (P := P) (o := o) (a := a) ty x ho g q n A hx hg ha hs hn
  unfold Oper.wp
  rw [he]
  exact hK _ _ h
theorem wpListIn_storeAll {F : Fence} (hF : LetsAll F) {n0 : Nat} {P : Program} {ops : Array Oper} {rest : List Oper} {o : Oper} {a : Act} {w : World} {Q : Exit → Act → World → Prop} (hgd : o.guard = none) (ty : TypeId) (x y : Operand) (ho : o.op = .store ty x y) (old A : Array Value) (n : Nat)
    (hx : a.eval x = .pointer (some ⟨w.heap.size, 0, none⟩)) (hy : a.eval y = .agg A) (hi : (P.info? ty).map (·.size) = some n) (hold : old.size = n) (hn : A.size = n) (h1 : A.all (·.oneCell') = true)
    (h : wpListIn F n0 P ops Q rest (a.put o.dst undef) (w.alloc (.cells A ty))) : wpListIn F n0 P ops Q (o :: rest) a (w.alloc (.cells old ty)) := by
  refine wpListIn_by hF hgd (by rw [ho]; intro c e; cases e) fun K hK => ?_
  refine wp_store_row ty x y ho w.heap.size A hx hy ty old (heap_alloc_last w _) (by rw [hi, hn]) (by rw [hold, hn]) h1 ?_
  rw [World.setRow_alloc_new]
  exact hK _ _ h
end Go.Proofs.YtaodjnkjjmhecaaGreatDoor
namespace Go.Proofs.YtaodjnkjjmhecaaGreatDoor
open Go.RowKit Go.Sort
set_option linter.unusedVariables false
theorem flatK_list {α : Type} [Inhabited α] {enc : α → List Value} {z : Nat} (hz : ∀ x, (enc x).length = z) (P : List α) : (Go.Sort.flatK enc z P.toArray).toList = flatC enc P := by
  apply List.ext_getElem?
  intro t
  by_cases ht : t < P.length * z
  · have hz0 : 0 < z := by
      rcases Nat.eq_zero_or_pos z with rfl | h
      · omega
      · exact h
    have hi : t / z < P.length := Nat.div_lt_of_lt_mul (by rw [Nat.mul_comm]; exact ht)
    have hj : t % z < z := Nat.mod_lt _ hz0
    have e1 : P[t / z]? = some P[t / z] := List.getElem?_eq_getElem hi
    have e2 : (enc P[t / z])[t % z]? = some ((enc P[t / z])[t % z]'(by rw [hz]; exact hj)) := List.getElem?_eq_getElem (by rw [hz]; exact hj)
    have h := flatC_at hz P _ _ _ _ e1 e2
    have e3 : t / z * z + t % z = t := by rw [Nat.mul_comm]; exact Nat.div_add_mod t z
    rw [e3] at h
    rw [h]
    have hs : t < (Go.Sort.flatK enc z P.toArray).size := by simpa using ht
    rw [Array.getElem?_toList, Array.getElem?_eq_getElem hs]
    have g := get_flatK enc z P.toArray t (by simpa using ht)
    rw [getElem!_pos _ t hs] at g
    rw [g]
    have e4 : P.toArray[t / z]! = P[t / z] := by simp [hi]
    rw [e4, getElem!_pos _ _ (by rw [hz]; exact hj)]
  · rw [List.getElem?_eq_none (by simp; omega), List.getElem?_eq_none (by rw [flatC_len hz]; omega)]
theorem own_block {α : Type} {enc : α → List Value} {z base : Nat} {e : TypeId} {g n c : Nat} {P : List α} {w : World} (h : OwnZ enc z base e (some ⟨g, 0, none⟩) n c P w) :
    ∃ cur, base ≤ g ∧ w.heap[g]? = some (.cells cur e (0, 0)) ∧ n ≤ c ∧ c ≤ maxLen ∧ cur.size = c * z ∧ cur.toList.take (n * z) = flatC enc P := by
  obtain ⟨⟨_, h1⟩, h2, h3, h4⟩ := h
  rcases h1 with ⟨h1, _⟩ | ⟨g', cap, cur, hv, hb, hg, a, b, d, f⟩
  · cases h1
  · cases hv
    exact ⟨cur, hb, hg, a, b, d, f⟩
theorem own_holds {α : Type} [Inhabited α] {enc : α → List Value} {z base : Nat} {e : TypeId} {g n c : Nat} {P : List α} {w : World} (hz : ∀ x, (enc x).length = z) (h : OwnZ enc z base e (some ⟨g, 0, none⟩) n c P w) : HoldsK enc z w g 0 P.toArray := by
  obtain ⟨cur, _, hg, hn, _, hs, ht⟩ := own_block h
  have hP : P.length = n := h.2.1
  intro t ht2
  have hlt : t < n * z := by simpa [hP] using ht2
  have hcz : n * z ≤ c * z := Nat.mul_le_mul_right z hn
  have e0 : (Go.Sort.flatK enc z P.toArray)[t]? = (flatC enc P)[t]? := by rw [← flatK_list hz P, Array.getElem?_toList]
  refine ⟨?_, by simp [World.frozen?, hg]⟩
  have e1 : (cur.toList.take (n * z))[t]? = (flatC enc P)[t]? := by rw [ht]
  rw [List.getElem?_take_of_lt hlt, ← e0, Array.getElem?_toList, Array.getElem?_eq_getElem ht2, Array.getElem?_eq_getElem (by omega)] at e1
  have e2 : cur[t]'(by omega) = (Go.Sort.flatK enc z P.toArray)[t] := by simpa using e1
  rw [getElem!_pos _ t ht2]
  simp [World.cell?, hg, show t < cur.size by omega, e2]
theorem heap_sortedK {α : Type} [Inhabited α] {enc : α → List Value} {z : Nat} {w : World} {g m : Nat} {os : Array Obj} {cur : Array Value} {e : TypeId} {fr : Nat × Nat} (d : Array α) (hb : w.heap[g]? = some (.cells cur e fr)) :
    (sortWorldK enc z w g 0 m d os).heap[g]? = some (.cells (putCells id 0 (Go.Sort.flatK enc z d) cur) e fr) := by
  have hg : g < w.heap.size := (Array.getElem?_eq_some_iff.1 hb).1
  unfold sortWorldK putRowK
  rw [heap_grow_old _ _ (by simpa using hg)]
  simp [putRow, mapBlock, Sort.ahead, Array.getElem?_modify, hb, onCells]
theorem keeps_sortedK {α : Type} [Inhabited α] {enc : α → List Value} {z : Nat} {w : World} {g m : Nat} {os : Array Obj} (d : Array α) : Keeps (fun k => k = g) w (sortWorldK enc z w g 0 m d os) := by
  unfold sortWorldK putRowK
  refine ⟨rfl, rfl, rfl, by simp, fun k hk hne => ?_⟩
  rw [heap_grow_old _ _ (by simpa using hk)]
  have : g ≠ k := fun e => hne e.symm
  simp [putRow, mapBlock, Sort.ahead, Array.getElem?_modify, this]
theorem take_putCellsK (cur F : Array Value) (h : F.size ≤ cur.size) : (putCells id 0 F cur).toList.take F.size = F.toList := by
  apply List.ext_getElem?
  intro j
  by_cases hj : j < F.size
  · rw [List.getElem?_take_of_lt hj, Array.getElem?_toList]
    simp [putCells, hj, show j < cur.size by omega]
  · rw [List.getElem?_eq_none (by simp; omega), List.getElem?_eq_none (by simp; omega)]
theorem own_sorted {α : Type} [Inhabited α] {enc : α → List Value} {z base : Nat} {e : TypeId} {g n c : Nat} {P : List α} {w : World} (hz : ∀ x, (enc x).length = z) (h : OwnZ enc z base e (some ⟨g, 0, none⟩) n c P w) (T : List α) (hT : T.length = n) (m : Nat) (os : Array Obj) :
    OwnZ enc z base e (some ⟨g, 0, none⟩) n c T (sortWorldK enc z w g 0 m T.toArray os) := by
  obtain ⟨cur, hb, hg, hn, hc, hs, ht⟩ := own_block h
  have hcz : n * z ≤ c * z := Nat.mul_le_mul_right z hn
  refine ⟨⟨by rw [flatC_len hz, hT], .inr ⟨g, c, _, rfl, hb, heap_sortedK T.toArray hg, hn, hc, by simp [putCells, hs], ?_⟩⟩, hT, hn, hc⟩
  have hF : (Go.Sort.flatK enc z T.toArray).size = n * z := by simp [hT]
  rw [← hF, take_putCellsK _ _ (by omega), flatK_list hz]
theorem permIn_all {α : Type} [Inhabited α] {d d' : Array α} (h : PermIn 0 d.size d d') : d'.size = d.size ∧ d'.toList.Perm d.toList := by
  obtain ⟨h1, _, h3⟩ := h
  refine ⟨h1, ?_⟩
  have e2 : d.extract 0 d.size = d := by simp
  have e1 : d'.extract 0 d.size = d' := by rw [← h1]; simp
  rw [e1, e2] at h3
  exact h3
theorem sortedIn_all {α : Type} [Inhabited α] {lt : α → α → Bool} {d : Array α} {n : Nat} (hn : d.size = n) (h : SortedIn lt 0 n d) : d.toList.Pairwise fun x y => lt y x = false := by
  rw [List.pairwise_iff_getElem]
  intro i j hi hj hij
  have hi' : i < d.size := by simpa using hi
  have hj' : j < d.size := by simpa using hj
  have := h i j (Nat.zero_le _) hij (by omega)
  rw [getElem!_pos d j hj', getElem!_pos d i hi'] at this
  simpa using this
end Go.Proofs.YtaodjnkjjmhecaaGreatDoor
namespace Go.Proofs.YtaodjnkjjmhecaaGreatDoor
open Go.RowKit
set_option linter.unusedVariables false
def bestR (b : Option EvR) (r : EvR) : Option EvR :=
  match b with
  | none => some r
  | some x => if lessT r.e.stamp x.e.stamp = true then some x else some r
def zeroE : List Value := [.int .i64 0, .int .i64 0, .int .i64 0, .int .i64 0, .int .i64 0, .int .i64 0, .int .i64 0, .string ⟨#[]⟩, .string ⟨#[]⟩, .string ⟨#[]⟩, .string ⟨#[]⟩, .bool false, .bool false, .bool false, .bool false, .int .i64 0, .int .i64 0, .int .i64 0, .slice none 0 0]
def encO (b : Option EvR) : List Value := match b with | none => zeroE | some r => encE r
theorem encO_one (b : Option EvR) : (encO b).toArray.all (·.oneCell') = true := by
  rw [← Array.all_toList]
  rcases b with _ | r <;> rfl
end Go.Proofs.YtaodjnkjjmhecaaGreatDoor
namespace Go.Proofs.YtaodjnkjjmhecaaGreatDoor
open Go.RowKit
set_option linter.unusedVariables false
set_option linter.unusedSimpArgs false
set_option maxRecDepth 100000 in
theorem dotCloneC (a : Option Addr) (n c : Nat) (L : List DotN) (w : World) (hL : RowOf encD 3 w a n c L) (hn : n ≤ 100000) :
    Calls Tryz.prog 151 #[.slice a n c] w (GivesZ encD 3 35 L n w) := by
  obtain ⟨i0, hi, hz0, hz1, hz2⟩ := info_parts infoDot
  have kn := fun (w : World) (a : Option Addr) (n c : Nat) => Go.run_eql_slice_nil (P := Tryz.prog) w 29 35 a n c Tryz.underlying29
  have hleq := hL.leq
  unfold GivesZ
  cases a with
  | none =>
    have hc0 : c = 0 := hL.nil0 rfl
    have hcl := hL.cle
    obtain rfl : c = 0 := hc0
    obtain rfl : n = 0 := by omega
    obtain rfl : L = [] := List.eq_nil_of_length_eq_zero hleq
    go_enter Tryz.func151, Tryz.ntmps151
    go_wp2
    go_ret
    exact ⟨none, 0, rfl, OwnZ.none _ _ _ _ _, Below.refl _ _⟩
  | some x =>
    have hown0 := OwnZ.lit encD 3 35 w
    have hbel0 := below_alloc w (.cells #[] 35)
    have hL0 := hL.below hbel0
    have hcm := hL.capm
    have hcl := hL.cle
    have HQ := Lib.hid hleq
    clear hL hleq
    go_enter Tryz.func151, Tryz.ntmps151
    go_wp2_with (at_builtin; refine wpList_append_rows encD_len (by decide) encD_one (by rfl) (.tmp 5) (.tmp 6) 29 (by rfl) 35 i0 (.agg #[.int .i64 0, .int .i64 0, .int .i64 0]) 24 Tryz.underlying29 hi hz0 hz1 hz2 rfl hown0 rfl hL0 rfl n (by omega) (by unfold maxLen; omega) (by omega) hbel0.size ?_; intro a2 c2 w2 hO2 hb2 hg2 ha2; have hB2 := hbel0.trans hb2)
    go_ret
    exact ⟨a2, c2, rfl, hO2, hB2⟩
set_option maxHeartbeats 4000000 in
set_option maxRecDepth 100000 in
theorem eventCloneC0 (e : EventN) (a : Option Addr) (n c : Nat) (w : World) (h : RowOf encD 3 w a n c e.over) (hl : lightE e = true) :
    Calls Tryz.prog 116 #[.agg #[.int .i64 e.dot.dev, .int .i64 e.dot.inc, .int .i64 e.dot.seq, .int .i64 e.stamp.wall, .int .i64 e.stamp.count, .int .i64 e.stamp.dev, .int .i64 e.kind, .string (str e.item.name), .string (str e.item.dom), .string (str e.item.path), .string (str e.item.val), .bool e.item.host, .bool e.item.sec, .bool e.item.http, .bool e.item.pers, .int .i64 e.item.exp, .int .i64 e.item.made, .int .i64 e.item.used, .slice a n c]] w fun en w' => ∃ b d, en = .returned (.agg #[.int .i64 e.dot.dev, .int .i64 e.dot.inc, .int .i64 e.dot.seq, .int .i64 e.stamp.wall, .int .i64 e.stamp.count, .int .i64 e.stamp.dev, .int .i64 e.kind, .string (str e.item.name), .string (str e.item.dom), .string (str e.item.path), .string (str e.item.val), .bool e.item.host, .bool e.item.sec, .bool e.item.http, .bool e.item.pers, .int .i64 e.item.exp, .int .i64 e.item.made, .int .i64 e.item.used, .slice b n d]) ∧ OwnZ encD 3 w.heap.size 35 b n d e.over w' ∧ Below w.heap.size w w' := by
  have hn := h.leq
  have hn2 : n ≤ 100000 := by
    unfold lightE at hl
    simp only [Bool.and_eq_true, decide_eq_true_eq] at hl
    omega
  have hb := below_alloc w (.cells #[.int .i64 e.dot.dev, .int .i64 e.dot.inc, .int .i64 e.dot.seq, .int .i64 e.stamp.wall, .int .i64 e.stamp.count, .int .i64 e.stamp.dev, .int .i64 e.kind, .string (str e.item.name), .string (str e.item.dom), .string (str e.item.path), .string (str e.item.val), .bool e.item.host, .bool e.item.sec, .bool e.item.http, .bool e.item.pers, .int .i64 e.item.exp, .int .i64 e.item.made, .int .i64 e.item.used, .slice a n c] 43)
  have O := ObjAt.new w #[.int .i64 e.dot.dev, .int .i64 e.dot.inc, .int .i64 e.dot.seq, .int .i64 e.stamp.wall, .int .i64 e.stamp.count, .int .i64 e.stamp.dev, .int .i64 e.kind, .string (str e.item.name), .string (str e.item.dom), .string (str e.item.path), .string (str e.item.val), .bool e.item.host, .bool e.item.sec, .bool e.item.http, .bool e.item.pers, .int .i64 e.item.exp, .int .i64 e.item.made, .int .i64 e.item.used, .slice a n c] 43
  have s1 : (w.alloc (.cells #[.int .i64 e.dot.dev, .int .i64 e.dot.inc, .int .i64 e.dot.seq, .int .i64 e.stamp.wall, .int .i64 e.stamp.count, .int .i64 e.stamp.dev, .int .i64 e.kind, .string (str e.item.name), .string (str e.item.dom), .string (str e.item.path), .string (str e.item.val), .bool e.item.host, .bool e.item.sec, .bool e.item.http, .bool e.item.pers, .int .i64 e.item.exp, .int .i64 e.item.made, .int .i64 e.item.used, .slice a n c] 43)).heap.size = w.heap.size + 1 := by simp
  generalize hv : w.alloc (.cells #[.int .i64 e.dot.dev, .int .i64 e.dot.inc, .int .i64 e.dot.seq, .int .i64 e.stamp.wall, .int .i64 e.stamp.count, .int .i64 e.stamp.dev, .int .i64 e.kind, .string (str e.item.name), .string (str e.item.dom), .string (str e.item.path), .string (str e.item.val), .bool e.item.host, .bool e.item.sec, .bool e.item.http, .bool e.item.pers, .int .i64 e.item.exp, .int .i64 e.item.made, .int .i64 e.item.used, .slice a n c] 43) = v at *
  have b2 := below_alloc v (.cells #[.int .i64 0, .int .i64 0, .int .i64 0, .int .i64 0, .int .i64 0, .int .i64 0, .int .i64 0, .string ⟨#[]⟩, .string ⟨#[]⟩, .string ⟨#[]⟩, .string ⟨#[]⟩, .bool false, .bool false, .bool false, .bool false, .int .i64 0, .int .i64 0, .int .i64 0, .slice none 0 0] 43)
  have oR := ObjAt.new v #[.int .i64 0, .int .i64 0, .int .i64 0, .int .i64 0, .int .i64 0, .int .i64 0, .int .i64 0, .string ⟨#[]⟩, .string ⟨#[]⟩, .string ⟨#[]⟩, .string ⟨#[]⟩, .bool false, .bool false, .bool false, .bool false, .int .i64 0, .int .i64 0, .int .i64 0, .slice none 0 0] 43
  rw [s1] at oR
  replace O := O.below b2 O.lt
  replace hb := hb.trans (b2.mono hb.size)
  generalize hv2 : v.alloc (.cells #[.int .i64 0, .int .i64 0, .int .i64 0, .int .i64 0, .int .i64 0, .int .i64 0, .int .i64 0, .string ⟨#[]⟩, .string ⟨#[]⟩, .string ⟨#[]⟩, .string ⟨#[]⟩, .bool false, .bool false, .bool false, .bool false, .int .i64 0, .int .i64 0, .int .i64 0, .slice none 0 0] 43) = v2 at *
  have HS2 := Lib.hid oR.lt
  have HC := dotCloneC a n c e.over v2 (h.below hb) hn2
  unfold GivesZ at HC
  have c18 := O.cell 18 rfl
  obtain ⟨A, hA⟩ : ∃ A, (#[.int .i64 e.dot.dev, .int .i64 e.dot.inc, .int .i64 e.dot.seq, .int .i64 e.stamp.wall, .int .i64 e.stamp.count, .int .i64 e.stamp.dev, .int .i64 e.kind, .string (str e.item.name), .string (str e.item.dom), .string (str e.item.path), .string (str e.item.val), .bool e.item.host, .bool e.item.sec, .bool e.item.http, .bool e.item.pers, .int .i64 e.item.exp, .int .i64 e.item.made, .int .i64 e.item.used, .slice a n c] : Array Value) = A := ⟨_, rfl⟩
  rw [hA] at hv O
  rw [hA]
  have hset : ∀ u, (A.toList.set 18 u) = (A.setIfInBounds 18 u).toList := fun u => by simp
  have hA2 : ∀ a2 c2, A.setIfInBounds 18 (.slice a2 n c2) = #[.int .i64 e.dot.dev, .int .i64 e.dot.inc, .int .i64 e.dot.seq, .int .i64 e.stamp.wall, .int .i64 e.stamp.count, .int .i64 e.stamp.dev, .int .i64 e.kind, .string (str e.item.name), .string (str e.item.dom), .string (str e.item.path), .string (str e.item.val), .bool e.item.host, .bool e.item.sec, .bool e.item.http, .bool e.item.pers, .int .i64 e.item.exp, .int .i64 e.item.made, .int .i64 e.item.used, .slice a2 n c2] := fun a2 c2 => by rw [← hA]; rfl
  clear h hA hl hn
  go_enter Tryz.func116, Tryz.ntmps116
  go_wp2_with (first
    | (go_at_call 151; (with_reducible refine HC.mono ?_); rintro e3 w3 ⟨a2, c2, rfl, ho, hx⟩; replace O := O.below hx O.lt; replace oR := oR.below hx oR.lt; replace hb := hb.trans (hx.mono hb.size); have d18 := (hx.cell (p := ⟨w.heap.size, 18, none⟩) (cell_lt c18)).trans c18; have f18 := O.free 18; have hat := Lib.hid ho.lt'; replace ho := ho.base (base' := w.heap.size) (by have := HS2.out; omega); have O2 := O.set 18 (.slice a2 n c2); rw [hset, hA2] at O2; have oR2 := oR.other (p := ⟨w.heap.size, 18, none⟩) (by simp) (.slice a2 n c2); obtain ⟨A2, hA2e⟩ : ∃ X, (#[.int .i64 e.dot.dev, .int .i64 e.dot.inc, .int .i64 e.dot.seq, .int .i64 e.stamp.wall, .int .i64 e.stamp.count, .int .i64 e.stamp.dev, .int .i64 e.kind, .string (str e.item.name), .string (str e.item.dom), .string (str e.item.path), .string (str e.item.val), .bool e.item.host, .bool e.item.sec, .bool e.item.http, .bool e.item.pers, .int .i64 e.item.exp, .int .i64 e.item.made, .int .i64 e.item.used, .slice a2 n c2] : Array Value) = X := ⟨_, rfl⟩; have hsz : A2.size = 19 := (by rw [← hA2e]; rfl); have oA : A2.all (·.oneCell') = true := (by rw [← hA2e]; simp [Value.oneCell']); rw [hA2e] at O2)
    | ((with_reducible change wpList _ _ _ _ _ (World.setCell _ _ _)); refine wpList_loadAll rfl 43 _ rfl w.heap.size 19 A2 rfl O2 Tryz.isAgg43 Tryz.sizeOf43 hsz ?_)
    | ((with_reducible change wpList _ _ _ _ _ (World.setCell _ _ _)); refine wpList_storeOver rfl 43 _ _ rfl (w.heap.size + 1) _ A2 19 rfl rfl oR2 (by kernel_rfl) rfl hsz oA ?_))
  have hne : w.heap.size + 1 ≠ w.heap.size := by omega
  have ho2 := ho.setCell (p := ⟨w.heap.size, 18, none⟩) (apart_iff.2 fun hk => by have := (hat.out w.heap.size hk).1; have := HS2.out; omega) (.slice a2 n c2)
  have HLV := loadVarBig (P := Tryz.prog) 43 (w.heap.size + 1) 19 A2 (oR2.setRow A2) Tryz.isAgg43 Tryz.sizeOf43 hsz
  have KR := (Keeps.refl (fun k => k = w.heap.size + 1) (w3.setCell ⟨w.heap.size, 18, none⟩ (.slice a2 n c2))).setRow rfl A2
  exact bodyPost_ret (v := .agg A2) (results_big1 Tryz.results116 rfl HLV) rfl ⟨a2, c2, by rw [hA2e], ho2.keeps KR (fun j h1 h2 => by have := (hat.out j h1).1; have := HS2.out; omega), below_rowSet (hb.setCell (p := ⟨w.heap.size, 18, none⟩) (Nat.le_refl _) _) (by omega) A2⟩
end Go.Proofs.YtaodjnkjjmhecaaGreatDoor
namespace Go.Proofs.YtaodjnkjjmhecaaGreatDoor
open Go.RowKit
set_option linter.unusedVariables false
def awA : DotN := ⟨0, 1, 1⟩
def awE2 : EventN := ⟨awA, ⟨0, 0, 0⟩, 1, ⟨[110], [100], [47], [], false, false, false, false, 1099511627776, 0, 0⟩, []⟩
theorem or_ex6 : lightE awE2 = true := by kernel_rfl
end Go.Proofs.YtaodjnkjjmhecaaGreatDoor
namespace Go.Proofs.YtaodjnkjjmhecaaGreatDoor
open Go.Shelf Go.RowKit Go.Lib
open Go.Sort (swp)
set_option linter.unusedVariables false
set_option linter.unusedSectionVars false
variable {α : Type} [Inhabited α]
structure Sorts (P : Program) (g : Nat) (lb : Array Value) (sf : Nat) (sb : Array Value) (lt : α → α → Bool) (n blk B : Nat) (S : Array α → World → Prop) (sw : Array α → World → Nat → Nat → World) : Prop where
  eg : ∀ args w, (callFunc g args).run P w = .ok (.enter g args) w
  size : ∀ {d : Array α} {W : World}, S d W → d.size = n
  row : blk < B
  base : ∀ {d : Array α} {W : World}, S d W → B ≤ W.heap.size
  on : ∀ {d : Array α} {W W' : World}, S d W → Keeps (fun k => B ≤ k) W W' → S d W'
  less : ∀ {d : Array α} {W : World} (i j : Nat), S d W → i < n → j < n → Calls P g (#[.int .i64 i, .int .i64 j] ++ lb) W fun e w' => e = .returned (.bool (lt d[i]! d[j]!)) ∧ Below W.heap.size W w'
  swap : ∀ {d : Array α} {W : World} (i j : Nat), S d W → i < n → j < n → (callFunc sf (#[.int .i64 i, .int .i64 j] ++ sb)).run P W = .ok (.value (.tuple #[])) (sw d W i j)
  swS : ∀ {d : Array α} {W : World} (i j : Nat), S d W → i < n → j < n → S (swp d i j) (sw d W i j)
  swK : ∀ {d : Array α} {W : World} (i j : Nat), S d W → i < n → j < n → Keeps (fun k => k = blk) W (sw d W i j)
  small : n < 4611686018427387904
structure InS (S : Array α → World → Prop) (blk : Nat) (w : World) (d : Array α) (W : World) : Prop where
  s : S d W
  k : Keeps (fun k => k = blk) w W
section
variable {P : Program} {g : Nat} {lb : Array Value} {sf : Nat} {sb : Array Value} {lt : α → α → Bool} {n blk B : Nat} {S : Array α → World → Prop} {sw : Array α → World → Nat → Nat → World} {d : Array α} {w W W' : World}
theorem Sorts.start (H : Sorts P g lb sf sb lt n blk B S sw) (h : S d w) : InS S blk w d w := ⟨h, .refl _ _⟩
theorem Sorts.boxed (H : Sorts P g lb sf sb lt n blk B S sw) (h : S d w) (o : Obj) : InS S blk (w.alloc o) d (w.alloc o) := ⟨H.on h (.new (below_alloc _ _)), .refl _ _⟩
theorem InS.more {w' : World} (h : InS S blk w d W) (hb : Below w'.heap.size w' w) : InS S blk w' d W := ⟨h.s, (Keeps.new hb).trans h.k fun _ _ q => q⟩
theorem Sorts.below (H : Sorts P g lb sf sb lt n blk B S sw) (h : InS S blk w d W) (hb : Below W.heap.size W W') : InS S blk w d W' := ⟨H.on h.s (.new hb), h.k.trans (Keeps.new hb) fun _ _ q => q⟩
theorem Sorts.lessT (H : Sorts P g lb sf sb lt n blk B S sw) (h : InS S blk w d W) (i j : Nat) (hi : i < n) (hj : j < n) :
    Calls P g (#[.int .i64 i, .int .i64 j] ++ lb) W fun e w' => e = .returned (.bool (lt d[i]! d[j]!)) ∧ InS S blk w d w' :=
  (H.less i j h.s hi hj).mono fun _ _ ⟨he, hb⟩ => ⟨he, H.below h hb⟩
theorem Sorts.swapT (H : Sorts P g lb sf sb lt n blk B S sw) (h : InS S blk w d W) (i j : Nat) (hi : i < n) (hj : j < n) :
    (callFunc sf (#[.int .i64 i, .int .i64 j] ++ sb)).run P W = .ok (.value (.tuple #[])) (sw d W i j) ∧ InS S blk w (swp d i j) (sw d W i j) :=
  ⟨H.swap i j h.s hi hj, H.swS i j h.s hi hj, h.k.trans (H.swK i j h.s hi hj) fun _ _ q => q⟩
theorem InS.then {e : Array α} {w2 : World} (h : InS S blk w d W) (h2 : InS S blk W e w2) : InS S blk w e w2 := ⟨h2.s, h.k.trans h2.k fun _ _ q => q⟩
theorem InS.cell (h : InS S blk w d W) {c i : Nat} {v : Value} (hne : c ≠ blk) (hc : w.cell? ⟨c, i, none⟩ = some v) : W.cell? ⟨c, i, none⟩ = some v := h.k.cell hc hne
end
end Go.Proofs.YtaodjnkjjmhecaaGreatDoor
namespace Go.Proofs.YtaodjnkjjmhecaaGreatDoor
open Go.RowKit
set_option linter.unusedVariables false
theorem belowOn {w v v' : World} (h : Below w.heap.size w v) (hx : Below v.heap.size v v') : Below w.heap.size w v' := h.trans (hx.mono h.size)
end Go.Proofs.YtaodjnkjjmhecaaGreatDoor
