/- Contracts and plain words that the laws' proofs stand on, put together. -/
import Derived.Test.YtkakcdojbgnocaaDoorLibAR
import Derived.Test.YtkakcdojbgnocaaDoorEventRef
import Derived.Test.YtkakcdojbgnocaaDoorLibAQ
import Derived.Test.YtkakcdojbgnocaaDoorLibAH
import Derived.Test.YtkakcdojbgnocaaDoorClockUp
import Derived.Test.YtkakcdojbgnocaaDoorLibAP
import Derived.Test.YtkakcdojbgnocaaDoorLibAA
import Derived.Test.YtkakcdojbgnocaaDoorLibAF
import Derived.Test.YtkakcdojbgnocaaDoorLibAS
import Derived.Deep.RegionHeld3
/- The program's own contracts of layer 20: an event's item; which events may be. -/
namespace Go.Proofs.YtkakcdojbgnocaaDoor
open Go.RowKit
set_option linter.unusedVariables false

theorem dotLessG (x y : DotN) (w : World) :
    Calls Tryd.prog 30 #[.agg #[.int .i64 x.dev, .int .i64 x.inc, .int .i64 x.seq], .agg #[.int .i64 y.dev, .int .i64 y.inc, .int .i64 y.seq]] w fun e w' => e = .returned (.bool (lessD x y)) ∧ Below w.heap.size w w' := by
  obtain ⟨o1, o2, hb⟩ := objsE2 w #[.int .i64 x.dev, .int .i64 x.inc, .int .i64 x.seq] #[.int .i64 y.dev, .int .i64 y.inc, .int .i64 y.seq] 25 25
  have u0 := o1.cell 0 rfl; have u1 := o1.cell 1 rfl; have u2 := o1.cell 2 rfl
  have v0 := o2.cell 0 rfl; have v1 := o2.cell 1 rfl; have v2 := o2.cell 2 rfl
  have H1 := fun w => dotOrderG x y w
  have hneg := ord_neg x y
  generalize ordD x y = C at *
  rw [← hneg]
  clear hneg
  go_enter Tryd.func30, Tryd.ntmps30
  go_wp2_with (go_at_call 37; (with_reducible refine (H1 _).mono ?_); rintro e w1 ⟨rfl, hx⟩; have hb := hb.trans (hx.below.mono hb.size))
  go_ret
  exact ⟨rfl, hb⟩

theorem zero_less {x : DotN} (h : rightD x = true) : lessD ⟨0, 0, 0⟩ x = true := by
  obtain ⟨d0, d1, e0, e1, s0, s1⟩ := right_range h
  rw [lessD_iff]
  dsimp only
  omega

theorem same_like2 (x y : ItemL) : sameI x y = (sameKey x y && likeC x y) := by
  rw [Bool.eq_iff_iff, sameI_iff, sameKC_iff]
theorem eqItemO (x : ItemL) (w : World) :
    Sem.run Tryd.prog (Op.equalIn 10000 47 (.agg #[.string (str x.name), .string (str x.dom), .string (str x.path), .string (str x.val), .bool x.host, .bool x.sec, .bool x.http, .bool x.pers, .int .i64 x.exp, .int .i64 x.made, .int .i64 x.used]) (.agg #[.string ⟨#[]⟩, .string ⟨#[]⟩, .string ⟨#[]⟩, .string ⟨#[]⟩, .bool false, .bool false, .bool false, .bool false, .int .i64 0, .int .i64 0, .int .i64 0])) w = Result.ok (sameKey x ItemL.none && likeC x ItemL.none) w := by
  rw [← same_like2]
  exact eqItem2 x ItemL.none w

set_option maxHeartbeats 2000000 in
set_option maxRecDepth 100000 in
theorem itemE (e : EventN) (a : Option Addr) (n c : Nat) (w : World) :
    Calls Tryd.prog 14 #[.agg #[.int .i64 e.dot.dev, .int .i64 e.dot.inc, .int .i64 e.dot.seq, .int .i64 e.stamp.wall, .int .i64 e.stamp.count, .int .i64 e.stamp.dev, .int .i64 e.kind, .string (str e.item.name), .string (str e.item.dom), .string (str e.item.path), .string (str e.item.val), .bool e.item.host, .bool e.item.sec, .bool e.item.http, .bool e.item.pers, .int .i64 e.item.exp, .int .i64 e.item.made, .int .i64 e.item.used, .slice a n c]] w fun en w' => en = .returned (.agg #[.string (str e.item.name), .string (str e.item.dom), .string (str e.item.path), .string (str e.item.val), .bool e.item.host, .bool e.item.sec, .bool e.item.http, .bool e.item.pers, .int .i64 e.item.exp, .int .i64 e.item.made, .int .i64 e.item.used]) ∧ Below w.heap.size w w' := by
  have hb := below_alloc w (.cells #[.int .i64 e.dot.dev, .int .i64 e.dot.inc, .int .i64 e.dot.seq, .int .i64 e.stamp.wall, .int .i64 e.stamp.count, .int .i64 e.stamp.dev, .int .i64 e.kind, .string (str e.item.name), .string (str e.item.dom), .string (str e.item.path), .string (str e.item.val), .bool e.item.host, .bool e.item.sec, .bool e.item.http, .bool e.item.pers, .int .i64 e.item.exp, .int .i64 e.item.made, .int .i64 e.item.used, .slice a n c] 34)
  have o1 := ObjAt.new w #[.int .i64 e.dot.dev, .int .i64 e.dot.inc, .int .i64 e.dot.seq, .int .i64 e.stamp.wall, .int .i64 e.stamp.count, .int .i64 e.stamp.dev, .int .i64 e.kind, .string (str e.item.name), .string (str e.item.dom), .string (str e.item.path), .string (str e.item.val), .bool e.item.host, .bool e.item.sec, .bool e.item.http, .bool e.item.pers, .int .i64 e.item.exp, .int .i64 e.item.made, .int .i64 e.item.used, .slice a n c] 34
  generalize hv : w.alloc (.cells #[.int .i64 e.dot.dev, .int .i64 e.dot.inc, .int .i64 e.dot.seq, .int .i64 e.stamp.wall, .int .i64 e.stamp.count, .int .i64 e.stamp.dev, .int .i64 e.kind, .string (str e.item.name), .string (str e.item.dom), .string (str e.item.path), .string (str e.item.val), .bool e.item.host, .bool e.item.sec, .bool e.item.http, .bool e.item.pers, .int .i64 e.item.exp, .int .i64 e.item.made, .int .i64 e.item.used, .slice a n c] 34) = v at *
  have o2 := ObjAt.new v #[.string ⟨#[]⟩, .string ⟨#[]⟩, .string ⟨#[]⟩, .string ⟨#[]⟩, .bool false, .bool false, .bool false, .bool false, .int .i64 0, .int .i64 0, .int .i64 0] 47
  have b2 := below_alloc v (.cells #[.string ⟨#[]⟩, .string ⟨#[]⟩, .string ⟨#[]⟩, .string ⟨#[]⟩, .bool false, .bool false, .bool false, .bool false, .int .i64 0, .int .i64 0, .int .i64 0] 47)
  have o1 := o1.below b2 o1.lt
  have u7 := o1.cell 7 rfl; have u8 := o1.cell 8 rfl; have u9 := o1.cell 9 rfl; have u10 := o1.cell 10 rfl; have u11 := o1.cell 11 rfl; have u12 := o1.cell 12 rfl; have u13 := o1.cell 13 rfl; have u14 := o1.cell 14 rfl; have u15 := o1.cell 15 rfl; have u16 := o1.cell 16 rfl; have u17 := o1.cell 17 rfl
  have o3 := ObjAt.new v #[.string (str e.item.name), .string (str e.item.dom), .string (str e.item.path), .string (str e.item.val), .bool e.item.host, .bool e.item.sec, .bool e.item.http, .bool e.item.pers, .int .i64 e.item.exp, .int .i64 e.item.made, .int .i64 e.item.used] 47
  have b3 := hb.trans ((below_alloc v (.cells #[.string (str e.item.name), .string (str e.item.dom), .string (str e.item.path), .string (str e.item.val), .bool e.item.host, .bool e.item.sec, .bool e.item.http, .bool e.item.pers, .int .i64 e.item.exp, .int .i64 e.item.made, .int .i64 e.item.used] 47)).mono hb.size)
  go_enter Tryd.func14, Tryd.ntmps14
  go_wp2
  have r0 := o3.cell 0 rfl; have r1 := o3.cell 1 rfl; have r2 := o3.cell 2 rfl; have r3 := o3.cell 3 rfl; have r4 := o3.cell 4 rfl; have r5 := o3.cell 5 rfl; have r6 := o3.cell 6 rfl; have r7 := o3.cell 7 rfl; have r8 := o3.cell 8 rfl; have r9 := o3.cell 9 rfl; have r10 := o3.cell 10 rfl
  exact bodyPost_ret (v := .agg #[.string (str e.item.name), .string (str e.item.dom), .string (str e.item.path), .string (str e.item.val), .bool e.item.host, .bool e.item.sec, .bool e.item.http, .bool e.item.pers, .int .i64 e.item.exp, .int .i64 e.item.made, .int .i64 e.item.used]) (by simp [results, Tryd.results14, go_sem, r0, r1, r2, r3, r4, r5, r6, r7, r8, r9, r10]) rfl ⟨rfl, b3⟩
end Go.Proofs.YtkakcdojbgnocaaDoor

/- The program's own contracts of layer 20: which events may be. -/
namespace Go.Proofs.YtkakcdojbgnocaaDoor
open Go.RowKit
set_option linter.unusedVariables false

/-- May an event be over its dots? -/
def overB (e : EventN) : Bool := decide (e.over.length ≤ 64) && (List.range e.over.length).all (okO e.over e.dot)
/-- Has it what its kind asks for? -/
theorem right_split (e : EventN) : rightE e = (rightD e.dot && (rightT e.stamp && (e.stamp.dev == e.dot.dev && (overB e && kindE e)))) := by
  unfold rightE headE overB
  cases rightD e.dot <;> cases rightT e.stamp <;> cases (e.stamp.dev == e.dot.dev) <;> cases decide (e.over.length ≤ 64) <;> cases (List.range e.over.length).all (okO e.over e.dot) <;> rfl
/-- The dot ahead of the one at a place; the zero one ahead of the first. -/
def prevO (L : List DotN) (k : Nat) : DotN := if k = 0 then ⟨0, 0, 0⟩ else L.getD (k - 1) ⟨0, 0, 0⟩
theorem ok_is (L : List DotN) (d x y : DotN) (k : Nat) (hx : L.getD k ⟨0, 0, 0⟩ = x) (hy : y = prevO L k) :
    okO L d k = (rightD x && (lessD y x && !((x.dev == d.dev && x.inc == d.inc) && decide (d.seq ≤ x.seq)))) := by
  unfold okO prevO at *
  rw [hx]
  cases hr : rightD x with
  | false => rfl
  | true =>
    by_cases h : k = 0
    · rw [if_pos h] at hy
      subst h hy
      rw [zero_less hr]
      rfl
    · rw [if_neg h] at hy
      rw [← hy, beq_eq_false_iff_ne.2 h, Bool.false_or]

/-- An event in its box; the dot ahead, in a block of its own. -/
structure StO (w : World) (e : EventN) (a : Option Addr) (n c B : Nat) (y : DotN) (v : World) : Prop where
  o : ObjAt v w.heap.size [.int .i64 e.dot.dev, .int .i64 e.dot.inc, .int .i64 e.dot.seq, .int .i64 e.stamp.wall, .int .i64 e.stamp.count, .int .i64 e.stamp.dev, .int .i64 e.kind, .string (str e.item.name), .string (str e.item.dom), .string (str e.item.path), .string (str e.item.val), .bool e.item.host, .bool e.item.sec, .bool e.item.http, .bool e.item.pers, .int .i64 e.item.exp, .int .i64 e.item.made, .int .i64 e.item.used, .slice a n c]
  oy : ObjAt v B [.int .i64 y.dev, .int .i64 y.inc, .int .i64 y.seq]
  hB : w.heap.size < B
  hb : Below w.heap.size w v
theorem StO.below {w v v' : World} {e : EventN} {a : Option Addr} {n c B : Nat} {y : DotN} (h : StO w e a n c B y v) (hx : Below v.heap.size v v') : StO w e a n c B y v' :=
  ⟨h.o.below hx h.o.lt, h.oy.below hx h.oy.lt, h.hB, h.hb.trans (hx.mono h.hb.size)⟩
theorem StO.put {w v : World} {e : EventN} {a : Option Addr} {n c B : Nat} {y : DotN} (h : StO w e a n c B y v) (x : DotN) : StO w e a n c B x (((v.setCell ⟨B, 0, none⟩ (.int .i64 x.dev)).setCell ⟨B, 1, none⟩ (.int .i64 x.inc)).setCell ⟨B, 2, none⟩ (.int .i64 x.seq)) := by
  have hne : B ≠ w.heap.size := fun e => by have := h.hB; omega
  exact ⟨((h.o.other (p := ⟨B, 0, none⟩) hne _).other (p := ⟨B, 1, none⟩) hne _).other (p := ⟨B, 2, none⟩) hne _, ((h.oy.set 0 _).set 1 _).set 2 _, h.hB, ((h.hb.setCell (p := ⟨B, 0, none⟩) (Nat.le_of_lt h.hB) _).setCell (p := ⟨B, 1, none⟩) (Nat.le_of_lt h.hB) _).setCell (p := ⟨B, 2, none⟩) (Nat.le_of_lt h.hB) _⟩

set_option maxHeartbeats 4000000 in
set_option maxRecDepth 100000 in
theorem rightOverC (e : EventN) (a : Option Addr) (n c : Nat) (w : World) (h : RowOf encD 3 w a n c e.over) :
    Calls Tryd.prog 20 #[.agg #[.int .i64 e.dot.dev, .int .i64 e.dot.inc, .int .i64 e.dot.seq, .int .i64 e.stamp.wall, .int .i64 e.stamp.count, .int .i64 e.stamp.dev, .int .i64 e.kind, .string (str e.item.name), .string (str e.item.dom), .string (str e.item.path), .string (str e.item.val), .bool e.item.host, .bool e.item.sec, .bool e.item.http, .bool e.item.pers, .int .i64 e.item.exp, .int .i64 e.item.made, .int .i64 e.item.used, .slice a n c]] w fun en w' => en = .returned (.bool (overB e)) ∧ Below w.heap.size w w' := by
  have hb := below_alloc w (.cells #[.int .i64 e.dot.dev, .int .i64 e.dot.inc, .int .i64 e.dot.seq, .int .i64 e.stamp.wall, .int .i64 e.stamp.count, .int .i64 e.stamp.dev, .int .i64 e.kind, .string (str e.item.name), .string (str e.item.dom), .string (str e.item.path), .string (str e.item.val), .bool e.item.host, .bool e.item.sec, .bool e.item.http, .bool e.item.pers, .int .i64 e.item.exp, .int .i64 e.item.made, .int .i64 e.item.used, .slice a n c] 34)
  have o1 := ObjAt.new w #[.int .i64 e.dot.dev, .int .i64 e.dot.inc, .int .i64 e.dot.seq, .int .i64 e.stamp.wall, .int .i64 e.stamp.count, .int .i64 e.stamp.dev, .int .i64 e.kind, .string (str e.item.name), .string (str e.item.dom), .string (str e.item.path), .string (str e.item.val), .bool e.item.host, .bool e.item.sec, .bool e.item.http, .bool e.item.pers, .int .i64 e.item.exp, .int .i64 e.item.made, .int .i64 e.item.used, .slice a n c] 34
  have s1 : (w.alloc (.cells #[.int .i64 e.dot.dev, .int .i64 e.dot.inc, .int .i64 e.dot.seq, .int .i64 e.stamp.wall, .int .i64 e.stamp.count, .int .i64 e.stamp.dev, .int .i64 e.kind, .string (str e.item.name), .string (str e.item.dom), .string (str e.item.path), .string (str e.item.val), .bool e.item.host, .bool e.item.sec, .bool e.item.http, .bool e.item.pers, .int .i64 e.item.exp, .int .i64 e.item.made, .int .i64 e.item.used, .slice a n c] 34)).heap.size = w.heap.size + 1 := by simp
  generalize hv : w.alloc (.cells #[.int .i64 e.dot.dev, .int .i64 e.dot.inc, .int .i64 e.dot.seq, .int .i64 e.stamp.wall, .int .i64 e.stamp.count, .int .i64 e.stamp.dev, .int .i64 e.kind, .string (str e.item.name), .string (str e.item.dom), .string (str e.item.path), .string (str e.item.val), .bool e.item.host, .bool e.item.sec, .bool e.item.http, .bool e.item.pers, .int .i64 e.item.exp, .int .i64 e.item.made, .int .i64 e.item.used, .slice a n c] 34) = v at *
  have hn := h.leq
  have hcm := h.capm
  have hcl := h.cle
  unfold maxLen at hcm
  have c18 := o1.cell 18 rfl
  by_cases q4 : 64 < n
  · have q4b : (64 : Int) < (n : Int) := by omega
    have E : overB e = false := by unfold overB; rw [decide_eq_false (by omega)]; rfl
    rw [E]
    clear E h o1
    go_enter Tryd.func20, Tryd.ntmps20
    go_wp2
    go_ret
    exact ⟨rfl, hb⟩
  · have q4b : ¬ (64 : Int) < (n : Int) := by omega
    have E : Hid (overB e = (List.range n).all (okO e.over e.dot)) := by
      show _ = _
      unfold overB
      rw [hn, decide_eq_true (by omega : n ≤ 64), Bool.true_and]
    have b2 := below_alloc v (.cells #[.int .i64 0, .int .i64 0, .int .i64 0] 25)
    have oz := ObjAt.new v #[.int .i64 0, .int .i64 0, .int .i64 0] 25
    rw [s1] at oz
    have hS0 : Hid (StO w e a n c (w.heap.size + 1) ⟨0, 0, 0⟩ (v.alloc (.cells #[.int .i64 0, .int .i64 0, .int .i64 0] 25))) := ⟨o1.below b2 o1.lt, oz, by omega, hb.trans (b2.mono hb.size)⟩
    have HROW := Lib.hid h
    have c18 := hS0.out.o.cell 18 rfl
    clear h o1 hb b2 q4 oz
    go_enter Tryd.func20, Tryd.ntmps20
    go_wp2
    go_loopw [13] (fun i wr => ∃ (k : Nat) (y : DotN), k ≤ n ∧ i = .int .i64 (k : Int) ∧ Hid (∀ j, j < k → okO e.over e.dot j = true) ∧ Hid (y = prevO e.over k) ∧ StO w e a n c (w.heap.size + 1) y wr) (fun i _ => n - (intOf i).toNat)
    case atStart => exact ⟨0, ⟨0, 0, 0⟩, Nat.zero_le _, rfl, fun j hj => absurd hj (Nat.not_lt_zero _), rfl, hS0.out⟩
    case round =>
      clear hS0 c18
      obtain ⟨k, y, hk, rfl, hall, hy, hS⟩ := hrel
      have e0 := hS.o.cell 0 rfl; have e1 := hS.o.cell 1 rfl; have e2 := hS.o.cell 2 rfl; have e18 := hS.o.cell 18 rfl
      by_cases hlt : k < n
      · have hlt' : (k : Int) < (n : Int) := by omega
        obtain ⟨x, g, off, hxk, rfl, p0, p1, p2⟩ := dot_at (HROW.out.below hS.hb) k hlt
        have hok := Lib.hid (ok_is e.over e.dot x y k (by rw [List.getD_eq_getElem?_getD, hxk]; rfl) hy.out)
        have hpr : Hid (x = prevO e.over (k + 1)) := by
          show _ = _
          unfold prevO
          rw [if_neg (Nat.succ_ne_zero k), Nat.add_sub_cancel, List.getD_eq_getElem?_getD, hxk]
          rfl
        have hyes : Hid (okO e.over e.dot k = true → ∀ j, j < k + 1 → okO e.over e.dot j = true) := fun h j hj => by
          by_cases hjk : j = k
          · rw [hjk]; exact h
          · exact hall.out j (by omega)
        have hno : Hid (okO e.over e.dot k = false → (List.range n).all (okO e.over e.dot) = false) := fun h => by
          rw [List.all_eq_false]
          exact ⟨k, List.mem_range.2 hlt, by rw [h]; exact Bool.false_ne_true⟩
        have HRx := fun v => dotRightC0 x v
        have HLx := fun v => dotLessG y x v
        have HEA := fun v => eqActor x.dev x.inc e.dot.dev e.dot.inc v
        have b3 := below_alloc wr (.cells #[.int .i64 x.dev, .int .i64 x.inc, .int .i64 x.seq] 25)
        have ox := ObjAt.new wr #[.int .i64 x.dev, .int .i64 x.inc, .int .i64 x.seq] 25
        have hS := hS.below b3
        have hxlt := ox.lt
        have e0 := hS.o.cell 0 rfl; have e1 := hS.o.cell 1 rfl; have e2 := hS.o.cell 2 rfl
        have x0 := ox.cell 0 rfl; have x1 := ox.cell 1 rfl; have x2 := ox.cell 2 rfl
        have y0 := hS.oy.cell 0 rfl; have y1 := hS.oy.cell 1 rfl; have y2 := hS.oy.cell 2 rfl
        obtain ⟨r1, hr1⟩ : ∃ r, rightD x = r := ⟨_, rfl⟩
        obtain ⟨r2, hr2⟩ : ∃ r, lessD y x = r := ⟨_, rfl⟩
        obtain ⟨r3, hr3⟩ : ∃ r, (x.dev == e.dot.dev && x.inc == e.dot.inc) = r := ⟨_, rfl⟩
        obtain ⟨r4, hr4⟩ : ∃ r, decide (e.dot.seq ≤ x.seq) = r := ⟨_, rfl⟩
        rw [hr1] at HRx
        rw [hr2] at HLx
        rw [hr3] at HEA
        rw [hr1, hr2, hr3, hr4] at hok
        clear hr1 hr2 hr3 hxk hlt
        cases r1 with
        | false =>
          clear HLx HEA hr4
          go_wp2_with (first | (go_at_call 18; (with_reducible refine (HRx _).mono ?_); rintro e7 w7 ⟨rfl, hx⟩; have hS := hS.below hx; have ox := ox.below hx ox.lt; have e0 := hS.o.cell 0 rfl; have e1 := hS.o.cell 1 rfl; have e2 := hS.o.cell 2 rfl; have x0 := ox.cell 0 rfl; have x1 := ox.cell 1 rfl; have x2 := ox.cell 2 rfl; have y0 := hS.oy.cell 0 rfl; have y1 := hS.oy.cell 1 rfl; have y2 := hS.oy.cell 2 rfl; have f0 := hS.oy.free 0; have f1 := hS.oy.free 1; have f2 := hS.oy.free 2; clear hx) | (go_at_call 30; (with_reducible refine (HLx _).mono ?_); rintro e8 w8 ⟨rfl, hx⟩; have hS := hS.below hx; have ox := ox.below hx ox.lt; have e0 := hS.o.cell 0 rfl; have e1 := hS.o.cell 1 rfl; have e2 := hS.o.cell 2 rfl; have x0 := ox.cell 0 rfl; have x1 := ox.cell 1 rfl; have x2 := ox.cell 2 rfl; have y0 := hS.oy.cell 0 rfl; have y1 := hS.oy.cell 1 rfl; have y2 := hS.oy.cell 2 rfl; have f0 := hS.oy.free 0; have f1 := hS.oy.free 1; have f2 := hS.oy.free 2; clear hx))
          go_ret
          exact ⟨by rw [E.out, hno.out (by rw [hok.out]; rfl)]; rfl, hS.hb⟩
        | true =>
        cases r2 with
        | false =>
          clear HEA hr4
          go_wp2_with (first | (go_at_call 18; (with_reducible refine (HRx _).mono ?_); rintro e7 w7 ⟨rfl, hx⟩; have hS := hS.below hx; have ox := ox.below hx ox.lt; have e0 := hS.o.cell 0 rfl; have e1 := hS.o.cell 1 rfl; have e2 := hS.o.cell 2 rfl; have x0 := ox.cell 0 rfl; have x1 := ox.cell 1 rfl; have x2 := ox.cell 2 rfl; have y0 := hS.oy.cell 0 rfl; have y1 := hS.oy.cell 1 rfl; have y2 := hS.oy.cell 2 rfl; have f0 := hS.oy.free 0; have f1 := hS.oy.free 1; have f2 := hS.oy.free 2; clear hx) | (go_at_call 30; (with_reducible refine (HLx _).mono ?_); rintro e8 w8 ⟨rfl, hx⟩; have hS := hS.below hx; have ox := ox.below hx ox.lt; have e0 := hS.o.cell 0 rfl; have e1 := hS.o.cell 1 rfl; have e2 := hS.o.cell 2 rfl; have x0 := ox.cell 0 rfl; have x1 := ox.cell 1 rfl; have x2 := ox.cell 2 rfl; have y0 := hS.oy.cell 0 rfl; have y1 := hS.oy.cell 1 rfl; have y2 := hS.oy.cell 2 rfl; have f0 := hS.oy.free 0; have f1 := hS.oy.free 1; have f2 := hS.oy.free 2; clear hx))
          go_ret
          exact ⟨by rw [E.out, hno.out (by rw [hok.out]; rfl)]; rfl, hS.hb⟩
        | true =>
        cases r3 with
        | false =>
          clear hr4
          go_wp2_with (first | (go_at_call 18; (with_reducible refine (HRx _).mono ?_); rintro e7 w7 ⟨rfl, hx⟩; have hS := hS.below hx; have ox := ox.below hx ox.lt; have e0 := hS.o.cell 0 rfl; have e1 := hS.o.cell 1 rfl; have e2 := hS.o.cell 2 rfl; have x0 := ox.cell 0 rfl; have x1 := ox.cell 1 rfl; have x2 := ox.cell 2 rfl; have y0 := hS.oy.cell 0 rfl; have y1 := hS.oy.cell 1 rfl; have y2 := hS.oy.cell 2 rfl; have f0 := hS.oy.free 0; have f1 := hS.oy.free 1; have f2 := hS.oy.free 2; clear hx) | (go_at_call 30; (with_reducible refine (HLx _).mono ?_); rintro e8 w8 ⟨rfl, hx⟩; have hS := hS.below hx; have ox := ox.below hx ox.lt; have e0 := hS.o.cell 0 rfl; have e1 := hS.o.cell 1 rfl; have e2 := hS.o.cell 2 rfl; have x0 := ox.cell 0 rfl; have x1 := ox.cell 1 rfl; have x2 := ox.cell 2 rfl; have y0 := hS.oy.cell 0 rfl; have y1 := hS.oy.cell 1 rfl; have y2 := hS.oy.cell 2 rfl; have f0 := hS.oy.free 0; have f1 := hS.oy.free 1; have f2 := hS.oy.free 2; clear hx))
          go_roundw
          case rel => exact ⟨k + 1, x, by omega, by go_num, hyes.out (by rw [hok.out]; rfl), hpr, hS.put x⟩
          case measure => simp [intOf]; omega
        | true =>
        cases r4 with
        | true =>
          have hr4 := of_decide_eq_true hr4
          go_wp2_with (first | (go_at_call 18; (with_reducible refine (HRx _).mono ?_); rintro e7 w7 ⟨rfl, hx⟩; have hS := hS.below hx; have ox := ox.below hx ox.lt; have e0 := hS.o.cell 0 rfl; have e1 := hS.o.cell 1 rfl; have e2 := hS.o.cell 2 rfl; have x0 := ox.cell 0 rfl; have x1 := ox.cell 1 rfl; have x2 := ox.cell 2 rfl; have y0 := hS.oy.cell 0 rfl; have y1 := hS.oy.cell 1 rfl; have y2 := hS.oy.cell 2 rfl; have f0 := hS.oy.free 0; have f1 := hS.oy.free 1; have f2 := hS.oy.free 2; clear hx) | (go_at_call 30; (with_reducible refine (HLx _).mono ?_); rintro e8 w8 ⟨rfl, hx⟩; have hS := hS.below hx; have ox := ox.below hx ox.lt; have e0 := hS.o.cell 0 rfl; have e1 := hS.o.cell 1 rfl; have e2 := hS.o.cell 2 rfl; have x0 := ox.cell 0 rfl; have x1 := ox.cell 1 rfl; have x2 := ox.cell 2 rfl; have y0 := hS.oy.cell 0 rfl; have y1 := hS.oy.cell 1 rfl; have y2 := hS.oy.cell 2 rfl; have f0 := hS.oy.free 0; have f1 := hS.oy.free 1; have f2 := hS.oy.free 2; clear hx))
          go_ret
          exact ⟨by rw [E.out, hno.out (by rw [hok.out]; rfl)]; rfl, hS.hb⟩
        | false =>
          have hr4 := of_decide_eq_false hr4
          go_wp2_with (first | (go_at_call 18; (with_reducible refine (HRx _).mono ?_); rintro e7 w7 ⟨rfl, hx⟩; have hS := hS.below hx; have ox := ox.below hx ox.lt; have e0 := hS.o.cell 0 rfl; have e1 := hS.o.cell 1 rfl; have e2 := hS.o.cell 2 rfl; have x0 := ox.cell 0 rfl; have x1 := ox.cell 1 rfl; have x2 := ox.cell 2 rfl; have y0 := hS.oy.cell 0 rfl; have y1 := hS.oy.cell 1 rfl; have y2 := hS.oy.cell 2 rfl; have f0 := hS.oy.free 0; have f1 := hS.oy.free 1; have f2 := hS.oy.free 2; clear hx) | (go_at_call 30; (with_reducible refine (HLx _).mono ?_); rintro e8 w8 ⟨rfl, hx⟩; have hS := hS.below hx; have ox := ox.below hx ox.lt; have e0 := hS.o.cell 0 rfl; have e1 := hS.o.cell 1 rfl; have e2 := hS.o.cell 2 rfl; have x0 := ox.cell 0 rfl; have x1 := ox.cell 1 rfl; have x2 := ox.cell 2 rfl; have y0 := hS.oy.cell 0 rfl; have y1 := hS.oy.cell 1 rfl; have y2 := hS.oy.cell 2 rfl; have f0 := hS.oy.free 0; have f1 := hS.oy.free 1; have f2 := hS.oy.free 2; clear hx))
          go_roundw
          case rel => exact ⟨k + 1, x, by omega, by go_num, hyes.out (by rw [hok.out]; rfl), hpr, hS.put x⟩
          case measure => simp [intOf]; omega
      · obtain rfl : k = n := by omega
        have hfull : Hid ((List.range k).all (okO e.over e.dot) = true) := by
          show _ = _
          rw [List.all_eq_true]
          intro j hj
          exact hall.out j (List.mem_range.1 hj)
        have hbb := hS.hb
        clear hall hy hS
        go_wp2
        go_ret
        exact ⟨by rw [E.out, hfull.out]; rfl, hbb⟩
end Go.Proofs.YtkakcdojbgnocaaDoor

/- The program's own contracts of layer 20: an item, packed. -/
namespace Go.Proofs.YtkakcdojbgnocaaDoor
open Go.RowKit
set_option linter.unusedVariables false

theorem fitD_of {x : DotN} (h : rightD x = true) : FitD x := by
  have := right_range h
  exact ⟨by unfold is64; omega, by unfold is64; omega, by unfold is64; omega⟩

theorem item_len (x : ItemL) (h : rightX x = true) (hd : x.dom.length ≤ 2000) : (itemBytes x).length ≤ 9000 := by
  obtain ⟨i1, i2, i3, ⟨i4, i5⟩, ⟨i6, i7⟩, i8, i9⟩ := right_item h
  obtain ⟨X, hX, hXl⟩ := fold_nat x.exp (by omega) (by omega)
  have e : itemBytes x = textBytes (str x.name) ++ textBytes (str x.dom) ++ textBytes (str x.path) ++ textBytes (str x.val) ++ short X ++ short x.made.toNat ++ short x.used.toNat := by
    unfold itemBytes textBytes
    rw [hX, str_size, str_size, str_size, str_size, Int.toNat_natCast]
  rw [e]
  simp only [List.length_append]
  have := textB_len x.name (by omega)
  have := textB_len x.dom hd
  have := textB_len x.path (by omega)
  have := textB_len x.val (by omega)
  have := short_ten X hXl
  have := short_ten x.made.toNat (by omega)
  have := short_ten x.used.toNat (by omega)
  omega

set_option maxHeartbeats 4000000 in
set_option maxRecDepth 100000 in
theorem putItemC (base p : Nat) (a : Option Addr) (l : List Int) (x : ItemL) (w : World) (hw : Wr 5 base p a l w) (hlen : l.length ≤ 1000000) (hbase : base ≤ w.heap.size) (h : rightX x = true) (hd : x.dom.length ≤ 2000) :
    Calls Tryd.prog 26 #[.pointer (some ⟨p, 0, none⟩), .agg #[.string (str x.name), .string (str x.dom), .string (str x.path), .string (str x.val), .bool x.host, .bool x.sec, .bool x.http, .bool x.pers, .int .i64 x.exp, .int .i64 x.made, .int .i64 x.used]] w (PutGives base p a (l ++ itemBytes x) w) := by
  obtain ⟨i1, i2, i3, ⟨i4, i5⟩, ⟨i6, i7⟩, i8, i9⟩ := right_item h
  obtain ⟨X, hX, hXl⟩ := fold_nat x.exp (by omega) (by omega)
  obtain ⟨M1, hM1⟩ := Int.eq_ofNat_of_zero_le i6
  obtain ⟨M2, hM2⟩ := Int.eq_ofNat_of_zero_le i8
  have E : Hid (l ++ itemBytes x = l ++ textBytes (str x.name) ++ textBytes (str x.dom) ++ textBytes (str x.path) ++ textBytes (str x.val) ++ short X ++ short M1 ++ short M2) := by
    show _ = _
    unfold itemBytes textBytes
    rw [hX, hM1, hM2, str_size, str_size, str_size, str_size, Int.toNat_natCast, Int.toNat_natCast, Int.toNat_natCast]
    simp only [List.append_assoc]
  have t1 := textB_len x.name (by omega)
  have t2 := textB_len x.dom hd
  have t3 := textB_len x.path (by omega)
  have t4 := textB_len x.val (by omega)
  have t5 := short_ten X hXl
  have t6 := short_ten M1 (by omega)
  obtain ⟨l1, hl1⟩ : ∃ k, l ++ textBytes (str x.name) = k := ⟨_, rfl⟩
  obtain ⟨l2, hl2⟩ : ∃ k, l1 ++ textBytes (str x.dom) = k := ⟨_, rfl⟩
  obtain ⟨l3, hl3⟩ : ∃ k, l2 ++ textBytes (str x.path) = k := ⟨_, rfl⟩
  obtain ⟨l4, hl4⟩ : ∃ k, l3 ++ textBytes (str x.val) = k := ⟨_, rfl⟩
  obtain ⟨l5, hl5⟩ : ∃ k, l4 ++ short X = k := ⟨_, rfl⟩
  obtain ⟨l6, hl6⟩ : ∃ k, l5 ++ short M1 = k := ⟨_, rfl⟩
  obtain ⟨l7, hl7⟩ : ∃ k, l6 ++ short M2 = k := ⟨_, rfl⟩
  have L1 : l1.length ≤ 1002010 := by rw [← hl1, List.length_append]; omega
  have L2 : l2.length ≤ 1004020 := by rw [← hl2, List.length_append]; omega
  have L3 : l3.length ≤ 1006030 := by rw [← hl3, List.length_append]; omega
  have L4 : l4.length ≤ 1008040 := by rw [← hl4, List.length_append]; omega
  have L5 : l5.length ≤ 1008050 := by rw [← hl5, List.length_append]; omega
  have L6 : l6.length ≤ 1008060 := by rw [← hl6, List.length_append]; omega
  rw [hl1, hl2, hl3, hl4, hl5, hl6, hl7] at E
  have H1 := fun a w hw hb => wTextC base p (str x.name) a l w hw (by omega) hb (by rw [str_size]; omega)
  have H2 := fun a w hw hb => wTextC base p (str x.dom) a l1 w hw (by omega) hb (by rw [str_size]; omega)
  have H3 := fun a w hw hb => wTextC base p (str x.path) a l2 w hw (by omega) hb (by rw [str_size]; omega)
  have H4 := fun a w hw hb => wTextC base p (str x.val) a l3 w hw (by omega) hb (by rw [str_size]; omega)
  have H5 := fun a w hw hb => wIntC base p X x.exp a l4 w hw (by omega) hb hX hXl (by omega) (by omega)
  have H6 := fun a w hw hb => wNumC base p M1 a l5 w hw (by omega) hb (by omega)
  have H7 := fun a w hw hb => wNumC base p M2 a l6 w hw (by omega) hb (by omega)
  rw [hl1] at H1
  rw [hl2] at H2
  rw [hl3] at H3
  rw [hl4] at H4
  rw [hl5] at H5
  rw [hl6] at H6
  rw [hl7] at H7
  have q1 : IntKind.u64.wrap (M1 : Int) = (M1 : Int) := by rw [IntKind.wrap_u64]; omega
  have q2 : IntKind.u64.wrap (M2 : Int) = (M2 : Int) := by rw [IntKind.wrap_u64]; omega
  have hS := (PutSt.new hw hbase).more #[.string (str x.name), .string (str x.dom), .string (str x.path), .string (str x.val), .bool x.host, .bool x.sec, .bool x.http, .bool x.pers, .int .i64 x.exp, .int .i64 x.made, .int .i64 x.used] 47
  clear hl1 hl2 hl3 hl4 hl5 hl6 hl7 L1 L2 L3 L4 L5 L6 t1 t2 t3 t4 t5 t6 i1 i2 i3 i4 i5 i6 i7 i8 i9 hXl hd h hlen hX
  rw [hM1, hM2] at hS
  obtain ⟨nm, dm, pa, va, f1, f2, f3, f4, ex, cr, ac⟩ := x
  dsimp only at *
  subst hM1 hM2
  generalize hv : w.alloc (.cells #[.string (str nm), .string (str dm), .string (str pa), .string (str va), .bool f1, .bool f2, .bool f3, .bool f4, .int .i64 ex, .int .i64 (M1 : Int), .int .i64 (M2 : Int)] 47) = v at *
  rw [E.out]
  go_enter Tryd.func26, Tryd.ntmps26
  go_wp2_with fail
  have hS := hS.below ((Below.refl v.heap.size v).drew)
  go_region_held3 (fun w' => w'.cell? ⟨w.heap.size, 0, none⟩ = some (.string (str nm)) ∧ w'.cell? ⟨w.heap.size, 1, none⟩ = some (.string (str dm)) ∧ w'.cell? ⟨w.heap.size, 2, none⟩ = some (.string (str pa)) ∧ w'.cell? ⟨w.heap.size, 3, none⟩ = some (.string (str va)))
    (exact ⟨(hS.obs _ (List.mem_cons_self ..)).1.cell 0 rfl, (hS.obs _ (List.mem_cons_self ..)).1.cell 1 rfl, (hS.obs _ (List.mem_cons_self ..)).1.cell 2 rfl, (hS.obs _ (List.mem_cons_self ..)).1.cell 3 rfl⟩)
    (first | (go_at_call 34; (with_reducible refine (H1 _ _ hS.wr hS.hb).mono ?_); rintro e3 w3 ⟨rfl, a3, hw3, k3, n3⟩; replace hS := hS.step hw3 k3 n3; clear hw3 k3 n3) | (go_at_call 34; (with_reducible refine (H2 _ _ hS.wr hS.hb).mono ?_); rintro e3 w3 ⟨rfl, a3, hw3, k3, n3⟩; replace hS := hS.step hw3 k3 n3; clear hw3 k3 n3) | (go_at_call 34; (with_reducible refine (H3 _ _ hS.wr hS.hb).mono ?_); rintro e3 w3 ⟨rfl, a3, hw3, k3, n3⟩; replace hS := hS.step hw3 k3 n3; clear hw3 k3 n3) | (go_at_call 34; (with_reducible refine (H4 _ _ hS.wr hS.hb).mono ?_); rintro e3 w3 ⟨rfl, a3, hw3, k3, n3⟩; replace hS := hS.step hw3 k3 n3; clear hw3 k3 n3))
  all_goals (
    go_wp2_with fail
    have hS := hS.below ((Below.refl _ _).drew)
    go_region_held3 (fun w' => w'.cell? ⟨w.heap.size, 8, none⟩ = some (.int .i64 ex) ∧ w'.cell? ⟨w.heap.size, 9, none⟩ = some (.int .i64 (M1 : Int)) ∧ w'.cell? ⟨w.heap.size, 10, none⟩ = some (.int .i64 (M2 : Int)))
      (exact ⟨(hS.obs _ (List.mem_cons_self ..)).1.cell 8 rfl, (hS.obs _ (List.mem_cons_self ..)).1.cell 9 rfl, (hS.obs _ (List.mem_cons_self ..)).1.cell 10 rfl⟩)
      (first | (go_at_call 35; (with_reducible refine (H5 _ _ hS.wr hS.hb).mono ?_); rintro e3 w3 ⟨rfl, a3, hw3, k3, n3⟩; replace hS := hS.step hw3 k3 n3; clear hw3 k3 n3) | (go_at_call 25; (with_reducible refine (H6 _ _ hS.wr hS.hb).mono ?_); rintro e3 w3 ⟨rfl, a3, hw3, k3, n3⟩; replace hS := hS.step hw3 k3 n3; clear hw3 k3 n3) | (go_at_call 25; (with_reducible refine (H7 _ _ hS.wr hS.hb).mono ?_); rintro e3 w3 ⟨rfl, a3, hw3, k3, n3⟩; replace hS := hS.step hw3 k3 n3; clear hw3 k3 n3))
    all_goals (
      go_wp2
      go_end0
      exact hS.gives))
end Go.Proofs.YtkakcdojbgnocaaDoor

/- The program's own contracts of layer 20: flags read into the places that are given. -/
namespace Go.Proofs.YtkakcdojbgnocaaDoor
open Go.RowKit
set_option linter.unusedVariables false

end Go.Proofs.YtkakcdojbgnocaaDoor

/- The program's own contracts of layer 20: an item read, but for its flags. -/
namespace Go.Proofs.YtkakcdojbgnocaaDoor
open Go.RowKit
set_option linter.unusedVariables false

end Go.Proofs.YtkakcdojbgnocaaDoor
