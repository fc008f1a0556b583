/- Contracts and plain words that the laws' proofs stand on. -/
import Derived.Test.YtaodjnkjjmhecaaGreatDoorLibBG
namespace Go.Proofs.YtaodjnkjjmhecaaGreatDoor
open Go.RowKit
set_option linter.unusedVariables false
theorem drawn_below {B : Nat} {a w : World} (h : Below B a w) (k : Nat) : Below B a (w.drewN k) := ⟨h.os, h.tape, h.output, h.size, h.block⟩
end Go.Proofs.YtaodjnkjjmhecaaGreatDoor
namespace Go.Proofs.YtaodjnkjjmhecaaGreatDoor
open Go.RowKit
set_option linter.unusedVariables false
set_option linter.unusedSimpArgs false
theorem wpList_loadRow {P : Program} {ops : Array Oper} {rest : List Oper} {o : Oper} {a : Act} {w : World} {Q : Exit → Act → World → Prop} (hgd : o.guard = none) (ty : TypeId) (x : Operand) (ho : o.op = .load ty x) (g q n : Nat) (A : Array Value)
    (hx : a.eval x = .pointer (some ⟨g, q, none⟩)) (hg : CellsAt w g q A.toList) (ha : ∀ w, (isAgg ty).run P w = .ok true w) (hs : ∀ w, (sizeOf ty).run P w = .ok n w) (hn : A.size = n)
    (h : wpList P ops Q rest (a.put o.dst (.agg A)) w) : wpList P ops Q (o :: rest) a w := by
  refine wpList_plain hgd fun K hK => ?_
  have he := execLoadRow (P := P) (o := o) (a := a) ty x ho g q n A hx hg ha hs hn
  unfold Oper.wp
  rw [he]
  exact hK _ _ h
end Go.Proofs.YtaodjnkjjmhecaaGreatDoor
namespace Go.Proofs.YtaodjnkjjmhecaaGreatDoor
open Go.RowKit
set_option linter.unusedVariables false
instance : Inhabited EvR := ⟨⟨⟨⟨0, 0, 0⟩, ⟨0, 0, 0⟩, 0, ItemL.none, []⟩, none, 0⟩⟩
theorem RowE.below {w w' : World} {a : Option Addr} {n c : Nat} {L : List EventN} (h : RowE w a n c L) (hb : Below w.heap.size w w') : RowE w' a n c L := by
  obtain ⟨P, h1, h2, h3⟩ := h
  exact ⟨P, h1, h2.below hb, h3.below hb⟩
theorem ev_at0 {w : World} {a : Option Addr} {n c : Nat} {L : List EventN} (h : RowE w a n c L) (k : Nat) (hk : k < n) :
    ∃ (r : EvR) (g off : Nat), L[k]? = some r.e ∧ a = some ⟨g, off, none⟩ ∧ (∀ (j : Nat) (v : Value), (encE r)[j]? = some v → w.cell? ⟨g, off + k * 19 + j, none⟩ = some v) ∧ RowOf encD 3 w r.a r.e.over.length r.c r.e.over := by
  obtain ⟨P, h1, h2, h3⟩ := h
  obtain ⟨x, g, off, e1, e2, e3⟩ := h2.at k hk
  refine ⟨x, g, off, ?_, e2, e3, h3 x (List.mem_of_getElem? e1)⟩
  rw [← h1, List.getElem?_map, e1]
  rfl
theorem ev_at {w : World} {a : Option Addr} {n c : Nat} {L : List EventN} (h : RowE w a n c L) (k : Nat) (hk : k < n) :
    ∃ (r : EvR) (g off : Nat) (A : Array Value), L[k]? = some r.e ∧ a = some ⟨g, off, none⟩ ∧ (encE r).toArray = A ∧ CellsAt w g (off + k * 19) A.toList ∧ RowOf encD 3 w r.a r.e.over.length r.c r.e.over ∧
      ∀ w', Below w.heap.size w w' → CellsAt w' g (off + k * 19) A.toList := by
  obtain ⟨r, g, off, h1, h2, h3, h4⟩ := ev_at0 h k hk
  refine ⟨r, g, off, _, h1, h2, rfl, fun j v hv => h3 j v (by simpa using hv), h4, fun w' hb j v hv => ?_⟩
  have hc := h3 j v (by simpa using hv)
  exact (hb.cell (p := ⟨g, off + k * 19 + j, none⟩) (cell_lt hc)).trans hc
end Go.Proofs.YtaodjnkjjmhecaaGreatDoor
namespace Go.Proofs.YtaodjnkjjmhecaaGreatDoor
open Go.RowKit
set_option linter.unusedVariables false
set_option linter.unusedSimpArgs false
theorem RowE.caps {w : World} {a : Option Addr} {n c : Nat} {L : List EventN} (h : RowE w a n c L) : n ≤ c ∧ c ≤ maxLen := by
  obtain ⟨P, h1, h2, h3⟩ := h
  exact ⟨h2.cle, h2.capm⟩
set_option maxHeartbeats 2000000 in
set_option maxRecDepth 100000 in
theorem refLightAllC (a : Option Addr) (n c : Nat) (most : Int) (L : List EventN) (w : World) (hL : RowE w a n c L) (hT : ∀ e ∈ L, e.item.name.length ≤ maxLen ∧ e.item.dom.length ≤ maxLen ∧ e.item.path.length ≤ maxLen ∧ e.item.val.length ≤ maxLen) :
    Calls Tryz.prog 28 #[.slice a n c, .int .i64 most] w fun en w' => en = .returned (.bool (decide ((L.length : Int) ≤ most) && L.all lightE)) ∧ Below w.heap.size w w' := by
  obtain ⟨hcl, hcm⟩ := hL.caps
  unfold maxLen at hcm
  have hb0 := Below.refl w.heap.size w
  have hlq := hL.leq
  rw [hlq]
  by_cases h : most < (n : Int)
  · have e : decide ((n : Int) ≤ most) = false := decide_eq_false (by omega)
    rw [e]
    have e1 : decide (most < (n : Int)) = true := decide_eq_true h
    clear hL hT hlq
    go_enter Tryz.func28, Tryz.ntmps28
    go_wp2
    go_ret
    exact ⟨rfl, hb0⟩
  · have e : decide ((n : Int) ≤ most) = true := decide_eq_true (by omega)
    rw [e, Bool.true_and]
    have e1 : decide (most < (n : Int)) = false := decide_eq_false h
    have HL := Lib.hid hL
    have HQ := Lib.hid hlq
    clear hL hlq e
    go_enter Tryz.func28, Tryz.ntmps28
    go_wp2
    go_loopw [5] (fun i wr => ∃ k : Nat, k ≤ n ∧ i = .int .i64 (k : Int) ∧ Hid ((L.take k).all lightE = true) ∧ Below w.heap.size w wr) (fun i _ => n - (intOf i).toNat)
    case atStart => exact ⟨0, Nat.zero_le _, rfl, rfl, hb0⟩
    case round =>
      clear hb0
      obtain ⟨k, hk, rfl, ht, hb⟩ := hrel
      by_cases hlt : k < n
      · have hlt' : (k : Int) < (n : Int) := by omega
        have i1 : (0 : Int) ≤ (k : Int) := by omega
        obtain ⟨x, g1, f1, A, e2, rfl, hA, cA, rA, kA⟩ := ev_at (HL.out.below hb) k hlt
        have hx := hT x.e (List.mem_of_getElem? e2)
        have HLI := fun v => refELightC x.e x.a x.e.over.length x.c v rfl hx.1 hx.2.1 hx.2.2.1 hx.2.2.2
        have zA : A.size = 19 := by rw [← hA]; rfl
        have eA : (#[.int .i64 x.e.dot.dev, .int .i64 x.e.dot.inc, .int .i64 x.e.dot.seq, .int .i64 x.e.stamp.wall, .int .i64 x.e.stamp.count, .int .i64 x.e.stamp.dev, .int .i64 x.e.kind, .string (str x.e.item.name), .string (str x.e.item.dom), .string (str x.e.item.path), .string (str x.e.item.val), .bool x.e.item.host, .bool x.e.item.sec, .bool x.e.item.http, .bool x.e.item.pers, .int .i64 x.e.item.exp, .int .i64 x.e.item.made, .int .i64 x.e.item.used, .slice x.a x.e.over.length x.c] : Array Value) = A := hA
        rw [eA] at HLI
        have hst : (L.take (k + 1)).all lightE = ((L.take k).all lightE && lightE x.e) := by
          obtain ⟨h1, h2⟩ := List.getElem?_eq_some_iff.1 e2
          rw [List.take_succ_eq_append_getElem h1, List.all_append, h2]
          simp
        have hno : lightE x.e = false → L.all lightE = false := fun hf => by
          rw [List.all_eq_false]
          exact ⟨x.e, List.mem_of_getElem? e2, by rw [hf]; exact Bool.noConfusion⟩
        rw [ht.out, Bool.true_and] at hst
        have HST := Lib.hid (And.intro hst hno)
        have hB1 : Below wr.heap.size wr wr := Below.refl _ wr
        generalize lightE x.e = T at *
        clear eA hA rA e2 hst hno hx
        cases T with
        | true =>
          have HN := Lib.hid HST.out.1
          clear HST ht
          go_wp2_with (first
            | (refine wpList_loadRow rfl 43 _ rfl g1 (f1 + k * 19) 19 A rfl cA Tryz.isAgg43 Tryz.sizeOf43 zA ?_)
            | (go_at_call 41; (with_reducible refine (HLI _).mono ?_); rintro ex wx ⟨rfl, hx⟩; have hB1 := hB1.trans (hx.mono hB1.size); clear hx))
          go_roundw
          case rel => exact ⟨k + 1, by omega, by go_num, HN, hb.trans (hB1.mono hb.size)⟩
          case measure => simp [intOf]; omega
        | false =>
          have HN := Lib.hid (HST.out.2 rfl)
          clear HST ht
          go_wp2_with (first
            | (refine wpList_loadRow rfl 43 _ rfl g1 (f1 + k * 19) 19 A rfl cA Tryz.isAgg43 Tryz.sizeOf43 zA ?_)
            | (go_at_call 41; (with_reducible refine (HLI _).mono ?_); rintro ex wx ⟨rfl, hx⟩; have hB1 := hB1.trans (hx.mono hB1.size); clear hx))
          go_ret
          exact ⟨by rw [HN.out]; rfl, hb.trans (hB1.mono hb.size)⟩
      · obtain rfl : k = n := by omega
        have e : Hid (L.all lightE = true) := by
          unfold Hid
          have := ht.out
          rwa [List.take_of_length_le (by rw [HQ.out]; exact Nat.le_refl _)] at this
        go_wp2
        go_ret
        exact ⟨by rw [e.out]; rfl, hb⟩
end Go.Proofs.YtaodjnkjjmhecaaGreatDoor
namespace Go.Proofs.YtaodjnkjjmhecaaGreatDoor
open Go.RowKit
set_option linter.unusedVariables false
def takesM (m : MapN) (e : EventN) : Prop := rightE e = true ∧ getV m.ctx e.dot.dev e.dot.inc + 1 = e.dot.seq
instance (m : MapN) (e : EventN) : Decidable (takesM m e) := by unfold takesM; infer_instance
def putMp (m : MapN) (e : EventN) : MapN := ⟨setV m.ctx e.dot, insE m.kept e, sortD (m.dead ++ e.over)⟩
theorem apply_is {m : MapN} (e : EventN) (h : m.kept.length < 2048) : (applyM m e).1 = if takesM m e then putMp m e else m := by
  by_cases ht : takesM m e
  · rw [if_pos ht]
    obtain ⟨h1, h2⟩ := ht
    have h3 : ¬ hasV m.ctx e.dot = true := by
      unfold hasV
      rw [Bool.and_eq_true, decide_eq_true_iff]
      omega
    unfold applyM
    rw [if_neg (by rw [h1]; exact Bool.noConfusion), if_neg h3, if_neg (fun c => c h2), if_neg (by omega)]
    rfl
  · rw [if_neg ht]
    unfold applyM
    split
    · rfl
    · rename_i h1
      split
      · rfl
      · split
        · rfl
        · rename_i h2
          exact absurd ⟨by simpa using h1, Classical.not_not.1 h2⟩ ht
theorem put_ok {m : MapN} {e : EventN} (h : OkMp m) (ht : takesM m e) : OkMp (putMp m e) := by
  have hd := right_dotE ht.1
  refine ⟨set_ok h.ctx hd, insE_sorted h.kept fun y hy c => ?_, fun y hy => ?_⟩
  · have := h.dots y hy
    rw [c] at this
    have := ht.2
    omega
  · rw [show (putMp m e).ctx = setV m.ctx e.dot from rfl, getV_set h.ctx.ord]
    rcases (insE_mem _ _ _).1 hy with rfl | hy
    · rw [if_pos ⟨rfl, rfl⟩]
      exact Int.le_refl _
    · have h1 := h.dots y hy
      split
      · rename_i c
        rw [← c.1, ← c.2] at h1
        have := ht.2
        omega
      · exact h1
def runM (m : MapN) (l : List EventN) : MapN := l.foldl (fun m e => (applyM m e).1) m
end Go.Proofs.YtaodjnkjjmhecaaGreatDoor
namespace Go.Proofs.YtaodjnkjjmhecaaGreatDoor
open Go.RowKit
set_option linter.unusedVariables false
set_option linter.unusedSimpArgs false
theorem two_filters {α : Type} (p q : α → Bool) (h : ∀ x, p x = true → q x = false) : ∀ l : List α, (l.filter p).length + (l.filter q).length ≤ l.length
  | [] => Nat.le_refl _
  | x :: t => by
    have ih := two_filters p q h t
    have hx := h x
    rw [List.filter_cons, List.filter_cons, List.length_cons]
    cases hp : p x <;> cases hq : q x <;> simp_all <;> omega
theorem set_few {l : List DotN} (h : OkV l) (x : DotN) : (setV l x).length ≤ l.length + 1 := by
  rw [set_is h.ord, List.length_append, List.length_cons]
  have := two_filters (fun y => aheadD y x) (fun y => aheadD x y) (fun y hy => by
    show aheadD x y = false
    have h1 : aheadD y x = true := hy
    rw [aheadD_iff] at h1
    rw [aheadD_no]
    omega) l
  omega
end Go.Proofs.YtaodjnkjjmhecaaGreatDoor
namespace Go.Proofs.YtaodjnkjjmhecaaGreatDoor
open Go.RowKit
set_option linter.unusedVariables false
theorem apply_oks {m : MapN} (e : EventN) (h : OkMs m) (hn : m.kept.length < 2048) : OkMs (applyM m e).1 := by
  rw [apply_is e hn]
  split
  · rename_i ht
    refine ⟨put_ok h.ok ht, fun y hy => ?_, sortD_sorted _, fun d hd => ?_⟩
    · rcases (insE_mem _ _ _).1 hy with rfl | hy
      · exact ht.1
      · exact h.right y hy
    · rcases List.mem_append.1 ((sortD_mem _ _).1 hd) with hd | hd
      · exact h.rdead d hd
      · exact right_overE ht.1 d hd
  · exact h
end Go.Proofs.YtaodjnkjjmhecaaGreatDoor
namespace Go.Proofs.YtaodjnkjjmhecaaGreatDoor
set_option linter.unusedVariables false
structure GoodM (m : MapN) (k : Nat) : Prop where
  oks : OkMs m
  ctx : m.ctx.length ≤ k
  kept : m.kept.length ≤ k
  dead : m.dead.length ≤ 100 * k
  light : ∀ e ∈ m.kept, lightE e = true
theorem GoodM.none : GoodM MapN.none 0 := ⟨okMs_none, Nat.le_refl _, Nat.le_refl _, Nat.le_refl _, fun e h => absurd h List.not_mem_nil⟩
theorem GoodM.more {m : MapN} {k j : Nat} (h : GoodM m k) (hj : k ≤ j) : GoodM m j := ⟨h.oks, Nat.le_trans h.ctx hj, Nat.le_trans h.kept hj, Nat.le_trans h.dead (Nat.mul_le_mul_left _ hj), h.light⟩
theorem GoodM.apply {m : MapN} {k : Nat} (h : GoodM m k) (e : EventN) (hk : k < 2048) (hl : lightE e = true) : GoodM (applyM m e).1 (k + 1) := by
  have hkl := h.kept
  have h1 := apply_oks e h.oks (by omega)
  have h2 := apply_is (m := m) e (by omega)
  rw [h2] at h1 ⊢
  split
  · rename_i ht
    rw [if_pos ht] at h1
    have h3 := h.ctx; have h5 := h.dead
    have h6 := sortD_len (m.dead ++ e.over)
    rw [List.length_append] at h6
    have ho : e.over.length ≤ 100 := by
      unfold lightE at hl
      simp only [Bool.and_eq_true, decide_eq_true_eq] at hl
      exact hl.1
    refine ⟨h1, ?_, ?_, ?_, ?_⟩
    · have := set_few h.oks.ok.ctx e.dot
      show (setV m.ctx e.dot).length ≤ k + 1
      omega
    · show (insE m.kept e).length ≤ k + 1
      rw [insE_length]
      omega
    · show (sortD (m.dead ++ e.over)).length ≤ 100 * (k + 1)
      omega
    · intro x hx
      rcases (insE_mem _ _ _).1 hx with rfl | hx
      · exact hl
      · exact h.light x hx
  · exact h.more (Nat.le_succ _)
theorem GoodM.runs (l : List EventN) : ∀ (m : MapN) (k : Nat), GoodM m k → k + l.length ≤ 2048 → (∀ e ∈ l, lightE e = true) → GoodM (runM m l) (k + l.length) := by
  induction l with
  | nil => exact fun m k h _ _ => h
  | cons e t ih =>
    intro m k h hk hl
    rw [List.length_cons] at hk ⊢
    have h1 := ih (applyM m e).1 (k + 1) (h.apply e (by omega) (hl e (List.mem_cons_self ..))) (by omega) (fun x hx => hl x (List.mem_cons_of_mem _ hx))
    rw [show k + (t.length + 1) = k + 1 + t.length by omega]
    exact h1
end Go.Proofs.YtaodjnkjjmhecaaGreatDoor
namespace Go.Proofs.YtaodjnkjjmhecaaGreatDoor
open Go.ChangeShapes Go.WideShapes Go.ChangeAt Go.RowKit
set_option linter.unusedVariables false
theorem rows_trod {H : Type} {enc : TypeId × Value → H} {P : Program} {w : World} {held : Bool} {α : Type} [Inhabited α] (en : α → List Value) (ok : α → Prop) {t e : TypeId} (z : Nat) {fuel : Nat} {v : Value} {x : DataW H × List MemPlace} (ht : P.underlying t = some (.slice e)) (hC : P.cellsOf e = z) (hp : 0 < z)
    (hD : ∀ (m : Nat) (cs : List Value) (y : DataW H × List MemPlace), DataW.trod enc P w 0 (fun _ => true) held m e cs = some y → ∃ x, cs = en x ∧ ok x) (hf : DataW.trod enc P w 0 (fun _ => true) held fuel t [v] = some x) :
    ∃ a len cap, ∃ Q : List α, v = .slice a len cap ∧ RowOf en z w a len cap Q ∧ ∀ x ∈ Q, ok x := by
  obtain ⟨a, len, cap, m, hcs, h1, h2, h3, hall⟩ := elems_of z ht hC hp hf
  cases hcs
  have hq : ∀ i, ∃ x : α, i < len → ok x ∧ ∃ g off, a = some ⟨g, off, none⟩ ∧ ∀ (j : Nat) (v : Value), (en x)[j]? = some v → w.cell? ⟨g, off + i * z + j, none⟩ = some v := fun i => by
    by_cases hi : i < len
    · obtain ⟨b, off, cs', y, ha, hl, hc, hy⟩ := hall i hi
      obtain ⟨x, rfl, hx⟩ := hD m cs' y hy
      exact ⟨x, fun _ => ⟨hx, b, off, ha, hc⟩⟩
    · exact ⟨default, fun h => absurd h hi⟩
  refine ⟨a, len, cap, (List.range len).map fun i => Classical.choose (hq i), rfl, ⟨by simp, h1, h2, h3, fun i x hx => ?_⟩, fun x hx => ?_⟩
  · have hi : i < len := by have := (List.getElem?_eq_some_iff.1 hx).1; simpa using this
    rw [List.getElem?_map, List.getElem?_range hi] at hx
    cases hx
    exact (Classical.choose_spec (hq i) hi).2
  · obtain ⟨i, hi, rfl⟩ := List.mem_map.1 hx
    exact (Classical.choose_spec (hq i) (List.mem_range.1 hi)).1
def OkR (w : World) (r : EvR) : Prop := RowOf encD 3 w r.a r.e.over.length r.c r.e.over ∧ (r.e.item.name.length ≤ maxLen ∧ r.e.item.dom.length ≤ maxLen ∧ r.e.item.path.length ≤ maxLen ∧ r.e.item.val.length ≤ maxLen) ∧ FitD r.e.dot
set_option maxRecDepth 100000 in
theorem evr_of {H : Type} {enc : TypeId × Value → H} {w : World} {fuel : Nat} {cs : List Value} {x : DataW H × List MemPlace} (h : DataW.trod enc Tryz.prog w 0 (fun _ => true) true fuel 43 cs = some x) : ∃ r : EvR, cs = encE r ∧ OkR w r := by
  obtain ⟨e, a, n, c, rfl, h2, hF, -, h3⟩ := event_of h
  obtain rfl := h2.leq
  exact ⟨⟨e, a, c⟩, rfl, h2, h3, hF⟩
set_option maxRecDepth 100000 in
theorem open_events {H : Type} {enc : TypeId × Value → H} {w : World} {r : Reach} {b0 : Nat} {v : Value} {d : DataW H} {p : List MemPlace} (hv : Value.okWide Tryz.prog w r b0 28 v) (h : DataW.Trod enc Tryz.prog w 0 (fun _ => true) true 28 v d p) :
    ∃ a n c, ∃ Q : List EvR, v = .slice a n c ∧ RowOf encE 19 w a n c Q ∧ ∀ x ∈ Q, OkR w x := by
  obtain ⟨a, n, c, rfl⟩ := okWide_slice Tryz.underlying28 hv
  obtain ⟨fuel, hf⟩ := h
  exact rows_trod encE (OkR w) 19 Tryz.underlying28 (by kernel_rfl) (by decide) (fun m cs y hy => evr_of hy) (show DataW.trod enc Tryz.prog w 0 (fun _ => true) true fuel 28 [.slice a n c] = some _ from hf)
end Go.Proofs.YtaodjnkjjmhecaaGreatDoor
