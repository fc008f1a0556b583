/- Contracts and plain words that the laws' proofs stand on, put together. -/
import Derived.Test.YtkakcdojbgnocaaGreatDoorLibAR
import Derived.Test.YtkakcdojbgnocaaGreatDoorEventRef
import Derived.Test.YtkakcdojbgnocaaGreatDoorLibAQ
import Derived.Test.YtkakcdojbgnocaaGreatDoorLibAH
import Derived.Test.YtkakcdojbgnocaaGreatDoorClockUp
import Derived.Test.YtkakcdojbgnocaaGreatDoorLibAP
import Derived.Test.YtkakcdojbgnocaaGreatDoorLibAA
import Derived.Test.YtkakcdojbgnocaaGreatDoorLibAF
import Derived.Test.YtkakcdojbgnocaaGreatDoorEventRef3
import Derived.Deep.RegionHeld3
/- The program's own contracts of layer 20: an event's item; which events may be. -/
namespace Go.Proofs.YtkakcdojbgnocaaGreatDoor
open Go.RowKit
set_option linter.unusedVariables false

theorem dotLessG (x y : DotN) (w : World) :
    Calls Tryz.prog 43 #[.agg #[.int .i64 x.dev, .int .i64 x.inc, .int .i64 x.seq], .agg #[.int .i64 y.dev, .int .i64 y.inc, .int .i64 y.seq]] w fun e w' => e = .returned (.bool (lessD x y)) ∧ Below w.heap.size w w' := by
  obtain ⟨o1, o2, hb⟩ := objsE2 w #[.int .i64 x.dev, .int .i64 x.inc, .int .i64 x.seq] #[.int .i64 y.dev, .int .i64 y.inc, .int .i64 y.seq] 25 25
  have u0 := o1.cell 0 rfl; have u1 := o1.cell 1 rfl; have u2 := o1.cell 2 rfl
  have v0 := o2.cell 0 rfl; have v1 := o2.cell 1 rfl; have v2 := o2.cell 2 rfl
  have H1 := fun w => dotOrderG x y w
  have hneg := ord_neg x y
  generalize ordD x y = C at *
  rw [← hneg]
  clear hneg
  go_enter Tryz.func43, Tryz.ntmps43
  go_wp2_with (go_at_call 65; (with_reducible refine (H1 _).mono ?_); rintro e w1 ⟨rfl, hx⟩; have hb := hb.trans (hx.below.mono hb.size))
  go_ret
  exact ⟨rfl, hb⟩

theorem zero_less {x : DotN} (h : rightD x = true) : lessD ⟨0, 0, 0⟩ x = true := by
  obtain ⟨d0, d1, e0, e1, s0, s1⟩ := right_range h
  rw [lessD_iff]
  dsimp only
  omega

theorem same_like2 (x y : ItemL) : sameI x y = (sameKey x y && likeC x y) := by
  rw [Bool.eq_iff_iff, sameI_iff, sameKC_iff]
theorem eqItemO (x : ItemL) (w : World) :
    Sem.run Tryz.prog (Op.equalIn 10000 38 (.agg #[.string (str x.name), .string (str x.dom), .string (str x.path), .string (str x.val), .bool x.host, .bool x.sec, .bool x.http, .bool x.pers, .int .i64 x.exp, .int .i64 x.made, .int .i64 x.used]) (.agg #[.string ⟨#[]⟩, .string ⟨#[]⟩, .string ⟨#[]⟩, .string ⟨#[]⟩, .bool false, .bool false, .bool false, .bool false, .int .i64 0, .int .i64 0, .int .i64 0])) w = Result.ok (sameKey x ItemL.none && likeC x ItemL.none) w := by
  rw [← same_like2]
  exact eqItem2 x ItemL.none w

set_option maxHeartbeats 2000000 in
set_option maxRecDepth 100000 in
theorem itemE (e : EventN) (a : Option Addr) (n c : Nat) (w : World) :
    Calls Tryz.prog 9 #[.agg #[.int .i64 e.dot.dev, .int .i64 e.dot.inc, .int .i64 e.dot.seq, .int .i64 e.stamp.wall, .int .i64 e.stamp.count, .int .i64 e.stamp.dev, .int .i64 e.kind, .string (str e.item.name), .string (str e.item.dom), .string (str e.item.path), .string (str e.item.val), .bool e.item.host, .bool e.item.sec, .bool e.item.http, .bool e.item.pers, .int .i64 e.item.exp, .int .i64 e.item.made, .int .i64 e.item.used, .slice a n c]] w fun en w' => en = .returned (.agg #[.string (str e.item.name), .string (str e.item.dom), .string (str e.item.path), .string (str e.item.val), .bool e.item.host, .bool e.item.sec, .bool e.item.http, .bool e.item.pers, .int .i64 e.item.exp, .int .i64 e.item.made, .int .i64 e.item.used]) ∧ Below w.heap.size w w' := by
  have hb := below_alloc w (.cells #[.int .i64 e.dot.dev, .int .i64 e.dot.inc, .int .i64 e.dot.seq, .int .i64 e.stamp.wall, .int .i64 e.stamp.count, .int .i64 e.stamp.dev, .int .i64 e.kind, .string (str e.item.name), .string (str e.item.dom), .string (str e.item.path), .string (str e.item.val), .bool e.item.host, .bool e.item.sec, .bool e.item.http, .bool e.item.pers, .int .i64 e.item.exp, .int .i64 e.item.made, .int .i64 e.item.used, .slice a n c] 34)
  have o1 := ObjAt.new w #[.int .i64 e.dot.dev, .int .i64 e.dot.inc, .int .i64 e.dot.seq, .int .i64 e.stamp.wall, .int .i64 e.stamp.count, .int .i64 e.stamp.dev, .int .i64 e.kind, .string (str e.item.name), .string (str e.item.dom), .string (str e.item.path), .string (str e.item.val), .bool e.item.host, .bool e.item.sec, .bool e.item.http, .bool e.item.pers, .int .i64 e.item.exp, .int .i64 e.item.made, .int .i64 e.item.used, .slice a n c] 34
  generalize hv : w.alloc (.cells #[.int .i64 e.dot.dev, .int .i64 e.dot.inc, .int .i64 e.dot.seq, .int .i64 e.stamp.wall, .int .i64 e.stamp.count, .int .i64 e.stamp.dev, .int .i64 e.kind, .string (str e.item.name), .string (str e.item.dom), .string (str e.item.path), .string (str e.item.val), .bool e.item.host, .bool e.item.sec, .bool e.item.http, .bool e.item.pers, .int .i64 e.item.exp, .int .i64 e.item.made, .int .i64 e.item.used, .slice a n c] 34) = v at *
  have o2 := ObjAt.new v #[.string ⟨#[]⟩, .string ⟨#[]⟩, .string ⟨#[]⟩, .string ⟨#[]⟩, .bool false, .bool false, .bool false, .bool false, .int .i64 0, .int .i64 0, .int .i64 0] 38
  have b2 := below_alloc v (.cells #[.string ⟨#[]⟩, .string ⟨#[]⟩, .string ⟨#[]⟩, .string ⟨#[]⟩, .bool false, .bool false, .bool false, .bool false, .int .i64 0, .int .i64 0, .int .i64 0] 38)
  have o1 := o1.below b2 o1.lt
  have u7 := o1.cell 7 rfl; have u8 := o1.cell 8 rfl; have u9 := o1.cell 9 rfl; have u10 := o1.cell 10 rfl; have u11 := o1.cell 11 rfl; have u12 := o1.cell 12 rfl; have u13 := o1.cell 13 rfl; have u14 := o1.cell 14 rfl; have u15 := o1.cell 15 rfl; have u16 := o1.cell 16 rfl; have u17 := o1.cell 17 rfl
  have o3 := ObjAt.new v #[.string (str e.item.name), .string (str e.item.dom), .string (str e.item.path), .string (str e.item.val), .bool e.item.host, .bool e.item.sec, .bool e.item.http, .bool e.item.pers, .int .i64 e.item.exp, .int .i64 e.item.made, .int .i64 e.item.used] 38
  have b3 := hb.trans ((below_alloc v (.cells #[.string (str e.item.name), .string (str e.item.dom), .string (str e.item.path), .string (str e.item.val), .bool e.item.host, .bool e.item.sec, .bool e.item.http, .bool e.item.pers, .int .i64 e.item.exp, .int .i64 e.item.made, .int .i64 e.item.used] 38)).mono hb.size)
  go_enter Tryz.func9, Tryz.ntmps9
  go_wp2
  have r0 := o3.cell 0 rfl; have r1 := o3.cell 1 rfl; have r2 := o3.cell 2 rfl; have r3 := o3.cell 3 rfl; have r4 := o3.cell 4 rfl; have r5 := o3.cell 5 rfl; have r6 := o3.cell 6 rfl; have r7 := o3.cell 7 rfl; have r8 := o3.cell 8 rfl; have r9 := o3.cell 9 rfl; have r10 := o3.cell 10 rfl
  exact bodyPost_ret (v := .agg #[.string (str e.item.name), .string (str e.item.dom), .string (str e.item.path), .string (str e.item.val), .bool e.item.host, .bool e.item.sec, .bool e.item.http, .bool e.item.pers, .int .i64 e.item.exp, .int .i64 e.item.made, .int .i64 e.item.used]) (by simp [results, Tryz.results9, go_sem, r0, r1, r2, r3, r4, r5, r6, r7, r8, r9, r10]) rfl ⟨rfl, b3⟩
end Go.Proofs.YtkakcdojbgnocaaGreatDoor

/- The program's own contracts of layer 20: which events may be. -/
namespace Go.Proofs.YtkakcdojbgnocaaGreatDoor
open Go.RowKit
set_option linter.unusedVariables false

/-- May an event be over its dots? -/
def overB (e : EventN) : Bool := decide (e.over.length ≤ 64) && (List.range e.over.length).all (okO e.over e.dot)
/-- Has it what its kind asks for? -/
theorem right_split (e : EventN) : rightE e = (rightD e.dot && (rightT e.stamp && (e.stamp.dev == e.dot.dev && (overB e && kindE e)))) := by
  unfold rightE headE overB
  cases rightD e.dot <;> cases rightT e.stamp <;> cases (e.stamp.dev == e.dot.dev) <;> cases decide (e.over.length ≤ 64) <;> cases (List.range e.over.length).all (okO e.over e.dot) <;> rfl
/-- The dot ahead of the one at a place; the zero one ahead of the first. -/
def prevO (L : List DotN) (k : Nat) : DotN := if k = 0 then ⟨0, 0, 0⟩ else L.getD (k - 1) ⟨0, 0, 0⟩
theorem ok_is (L : List DotN) (d x y : DotN) (k : Nat) (hx : L.getD k ⟨0, 0, 0⟩ = x) (hy : y = prevO L k) :
    okO L d k = (rightD x && (lessD y x && !((x.dev == d.dev && x.inc == d.inc) && decide (d.seq ≤ x.seq)))) := by
  unfold okO prevO at *
  rw [hx]
  cases hr : rightD x with
  | false => rfl
  | true =>
    by_cases h : k = 0
    · rw [if_pos h] at hy
      subst h hy
      rw [zero_less hr]
      rfl
    · rw [if_neg h] at hy
      rw [← hy, beq_eq_false_iff_ne.2 h, Bool.false_or]

/-- An event in its box; the dot ahead, in a block of its own. -/
structure StO (w : World) (e : EventN) (a : Option Addr) (n c B : Nat) (y : DotN) (v : World) : Prop where
  o : ObjAt v w.heap.size [.int .i64 e.dot.dev, .int .i64 e.dot.inc, .int .i64 e.dot.seq, .int .i64 e.stamp.wall, .int .i64 e.stamp.count, .int .i64 e.stamp.dev, .int .i64 e.kind, .string (str e.item.name), .string (str e.item.dom), .string (str e.item.path), .string (str e.item.val), .bool e.item.host, .bool e.item.sec, .bool e.item.http, .bool e.item.pers, .int .i64 e.item.exp, .int .i64 e.item.made, .int .i64 e.item.used, .slice a n c]
  oy : ObjAt v B [.int .i64 y.dev, .int .i64 y.inc, .int .i64 y.seq]
  hB : w.heap.size < B
  hb : Below w.heap.size w v
theorem StO.below {w v v' : World} {e : EventN} {a : Option Addr} {n c B : Nat} {y : DotN} (h : StO w e a n c B y v) (hx : Below v.heap.size v v') : StO w e a n c B y v' :=
  ⟨h.o.below hx h.o.lt, h.oy.below hx h.oy.lt, h.hB, h.hb.trans (hx.mono h.hb.size)⟩
theorem StO.put {w v : World} {e : EventN} {a : Option Addr} {n c B : Nat} {y : DotN} (h : StO w e a n c B y v) (x : DotN) : StO w e a n c B x (((v.setCell ⟨B, 0, none⟩ (.int .i64 x.dev)).setCell ⟨B, 1, none⟩ (.int .i64 x.inc)).setCell ⟨B, 2, none⟩ (.int .i64 x.seq)) := by
  have hne : B ≠ w.heap.size := fun e => by have := h.hB; omega
  exact ⟨((h.o.other (p := ⟨B, 0, none⟩) hne _).other (p := ⟨B, 1, none⟩) hne _).other (p := ⟨B, 2, none⟩) hne _, ((h.oy.set 0 _).set 1 _).set 2 _, h.hB, ((h.hb.setCell (p := ⟨B, 0, none⟩) (Nat.le_of_lt h.hB) _).setCell (p := ⟨B, 1, none⟩) (Nat.le_of_lt h.hB) _).setCell (p := ⟨B, 2, none⟩) (Nat.le_of_lt h.hB) _⟩

set_option maxHeartbeats 4000000 in
set_option maxRecDepth 100000 in
theorem rightOverC (e : EventN) (a : Option Addr) (n c : Nat) (w : World) (h : RowOf encD 3 w a n c e.over) :
    Calls Tryz.prog 19 #[.agg #[.int .i64 e.dot.dev, .int .i64 e.dot.inc, .int .i64 e.dot.seq, .int .i64 e.stamp.wall, .int .i64 e.stamp.count, .int .i64 e.stamp.dev, .int .i64 e.kind, .string (str e.item.name), .string (str e.item.dom), .string (str e.item.path), .string (str e.item.val), .bool e.item.host, .bool e.item.sec, .bool e.item.http, .bool e.item.pers, .int .i64 e.item.exp, .int .i64 e.item.made, .int .i64 e.item.used, .slice a n c]] w fun en w' => en = .returned (.bool (overB e)) ∧ Below w.heap.size w w' := by
  have hb := below_alloc w (.cells #[.int .i64 e.dot.dev, .int .i64 e.dot.inc, .int .i64 e.dot.seq, .int .i64 e.stamp.wall, .int .i64 e.stamp.count, .int .i64 e.stamp.dev, .int .i64 e.kind, .string (str e.item.name), .string (str e.item.dom), .string (str e.item.path), .string (str e.item.val), .bool e.item.host, .bool e.item.sec, .bool e.item.http, .bool e.item.pers, .int .i64 e.item.exp, .int .i64 e.item.made, .int .i64 e.item.used, .slice a n c] 34)
  have o1 := ObjAt.new w #[.int .i64 e.dot.dev, .int .i64 e.dot.inc, .int .i64 e.dot.seq, .int .i64 e.stamp.wall, .int .i64 e.stamp.count, .int .i64 e.stamp.dev, .int .i64 e.kind, .string (str e.item.name), .string (str e.item.dom), .string (str e.item.path), .string (str e.item.val), .bool e.item.host, .bool e.item.sec, .bool e.item.http, .bool e.item.pers, .int .i64 e.item.exp, .int .i64 e.item.made, .int .i64 e.item.used, .slice a n c] 34
  have s1 : (w.alloc (.cells #[.int .i64 e.dot.dev, .int .i64 e.dot.inc, .int .i64 e.dot.seq, .int .i64 e.stamp.wall, .int .i64 e.stamp.count, .int .i64 e.stamp.dev, .int .i64 e.kind, .string (str e.item.name), .string (str e.item.dom), .string (str e.item.path), .string (str e.item.val), .bool e.item.host, .bool e.item.sec, .bool e.item.http, .bool e.item.pers, .int .i64 e.item.exp, .int .i64 e.item.made, .int .i64 e.item.used, .slice a n c] 34)).heap.size = w.heap.size + 1 := by simp
  generalize hv : w.alloc (.cells #[.int .i64 e.dot.dev, .int .i64 e.dot.inc, .int .i64 e.dot.seq, .int .i64 e.stamp.wall, .int .i64 e.stamp.count, .int .i64 e.stamp.dev, .int .i64 e.kind, .string (str e.item.name), .string (str e.item.dom), .string (str e.item.path), .string (str e.item.val), .bool e.item.host, .bool e.item.sec, .bool e.item.http, .bool e.item.pers, .int .i64 e.item.exp, .int .i64 e.item.made, .int .i64 e.item.used, .slice a n c] 34) = v at *
  have hn := h.leq
  have hcm := h.capm
  have hcl := h.cle
  unfold maxLen at hcm
  have c18 := o1.cell 18 rfl
  by_cases q4 : 64 < n
  · have q4b : (64 : Int) < (n : Int) := by omega
    have E : overB e = false := by unfold overB; rw [decide_eq_false (by omega)]; rfl
    rw [E]
    clear E h o1
    go_enter Tryz.func19, Tryz.ntmps19
    go_wp2
    go_ret
    exact ⟨rfl, hb⟩
  · have q4b : ¬ (64 : Int) < (n : Int) := by omega
    have E : Hid (overB e = (List.range n).all (okO e.over e.dot)) := by
      show _ = _
      unfold overB
      rw [hn, decide_eq_true (by omega : n ≤ 64), Bool.true_and]
    have b2 := below_alloc v (.cells #[.int .i64 0, .int .i64 0, .int .i64 0] 25)
    have oz := ObjAt.new v #[.int .i64 0, .int .i64 0, .int .i64 0] 25
    rw [s1] at oz
    have hS0 : Hid (StO w e a n c (w.heap.size + 1) ⟨0, 0, 0⟩ (v.alloc (.cells #[.int .i64 0, .int .i64 0, .int .i64 0] 25))) := ⟨o1.below b2 o1.lt, oz, by omega, hb.trans (b2.mono hb.size)⟩
    have HROW := Lib.hid h
    have c18 := hS0.out.o.cell 18 rfl
    clear h o1 hb b2 q4 oz
    go_enter Tryz.func19, Tryz.ntmps19
    go_wp2
    go_loopw [13] (fun i wr => ∃ (k : Nat) (y : DotN), k ≤ n ∧ i = .int .i64 (k : Int) ∧ Hid (∀ j, j < k → okO e.over e.dot j = true) ∧ Hid (y = prevO e.over k) ∧ StO w e a n c (w.heap.size + 1) y wr) (fun i _ => n - (intOf i).toNat)
    case atStart => exact ⟨0, ⟨0, 0, 0⟩, Nat.zero_le _, rfl, fun j hj => absurd hj (Nat.not_lt_zero _), rfl, hS0.out⟩
    case round =>
      clear hS0 c18
      obtain ⟨k, y, hk, rfl, hall, hy, hS⟩ := hrel
      have e0 := hS.o.cell 0 rfl; have e1 := hS.o.cell 1 rfl; have e2 := hS.o.cell 2 rfl; have e18 := hS.o.cell 18 rfl
      by_cases hlt : k < n
      · have hlt' : (k : Int) < (n : Int) := by omega
        obtain ⟨x, g, off, hxk, rfl, p0, p1, p2⟩ := dot_at (HROW.out.below hS.hb) k hlt
        have hok := Lib.hid (ok_is e.over e.dot x y k (by rw [List.getD_eq_getElem?_getD, hxk]; rfl) hy.out)
        have hpr : Hid (x = prevO e.over (k + 1)) := by
          show _ = _
          unfold prevO
          rw [if_neg (Nat.succ_ne_zero k), Nat.add_sub_cancel, List.getD_eq_getElem?_getD, hxk]
          rfl
        have hyes : Hid (okO e.over e.dot k = true → ∀ j, j < k + 1 → okO e.over e.dot j = true) := fun h j hj => by
          by_cases hjk : j = k
          · rw [hjk]; exact h
          · exact hall.out j (by omega)
        have hno : Hid (okO e.over e.dot k = false → (List.range n).all (okO e.over e.dot) = false) := fun h => by
          rw [List.all_eq_false]
          exact ⟨k, List.mem_range.2 hlt, by rw [h]; exact Bool.false_ne_true⟩
        have HRx := fun v => dotRightC0 x v
        have HLx := fun v => dotLessG y x v
        have HEA := fun v => eqActor x.dev x.inc e.dot.dev e.dot.inc v
        have b3 := below_alloc wr (.cells #[.int .i64 x.dev, .int .i64 x.inc, .int .i64 x.seq] 25)
        have ox := ObjAt.new wr #[.int .i64 x.dev, .int .i64 x.inc, .int .i64 x.seq] 25
        have hS := hS.below b3
        have hxlt := ox.lt
        have e0 := hS.o.cell 0 rfl; have e1 := hS.o.cell 1 rfl; have e2 := hS.o.cell 2 rfl
        have x0 := ox.cell 0 rfl; have x1 := ox.cell 1 rfl; have x2 := ox.cell 2 rfl
        have y0 := hS.oy.cell 0 rfl; have y1 := hS.oy.cell 1 rfl; have y2 := hS.oy.cell 2 rfl
        obtain ⟨r1, hr1⟩ : ∃ r, rightD x = r := ⟨_, rfl⟩
        obtain ⟨r2, hr2⟩ : ∃ r, lessD y x = r := ⟨_, rfl⟩
        obtain ⟨r3, hr3⟩ : ∃ r, (x.dev == e.dot.dev && x.inc == e.dot.inc) = r := ⟨_, rfl⟩
        obtain ⟨r4, hr4⟩ : ∃ r, decide (e.dot.seq ≤ x.seq) = r := ⟨_, rfl⟩
        rw [hr1] at HRx
        rw [hr2] at HLx
        rw [hr3] at HEA
        rw [hr1, hr2, hr3, hr4] at hok
        clear hr1 hr2 hr3 hxk hlt
        cases r1 with
        | false =>
          clear HLx HEA hr4
          go_wp2_with (first | (go_at_call 17; (with_reducible refine (HRx _).mono ?_); rintro e7 w7 ⟨rfl, hx⟩; have hS := hS.below hx; have ox := ox.below hx ox.lt; have e0 := hS.o.cell 0 rfl; have e1 := hS.o.cell 1 rfl; have e2 := hS.o.cell 2 rfl; have x0 := ox.cell 0 rfl; have x1 := ox.cell 1 rfl; have x2 := ox.cell 2 rfl; have y0 := hS.oy.cell 0 rfl; have y1 := hS.oy.cell 1 rfl; have y2 := hS.oy.cell 2 rfl; have f0 := hS.oy.free 0; have f1 := hS.oy.free 1; have f2 := hS.oy.free 2; clear hx) | (go_at_call 43; (with_reducible refine (HLx _).mono ?_); rintro e8 w8 ⟨rfl, hx⟩; have hS := hS.below hx; have ox := ox.below hx ox.lt; have e0 := hS.o.cell 0 rfl; have e1 := hS.o.cell 1 rfl; have e2 := hS.o.cell 2 rfl; have x0 := ox.cell 0 rfl; have x1 := ox.cell 1 rfl; have x2 := ox.cell 2 rfl; have y0 := hS.oy.cell 0 rfl; have y1 := hS.oy.cell 1 rfl; have y2 := hS.oy.cell 2 rfl; have f0 := hS.oy.free 0; have f1 := hS.oy.free 1; have f2 := hS.oy.free 2; clear hx))
          go_ret
          exact ⟨by rw [E.out, hno.out (by rw [hok.out]; rfl)]; rfl, hS.hb⟩
        | true =>
        cases r2 with
        | false =>
          clear HEA hr4
          go_wp2_with (first | (go_at_call 17; (with_reducible refine (HRx _).mono ?_); rintro e7 w7 ⟨rfl, hx⟩; have hS := hS.below hx; have ox := ox.below hx ox.lt; have e0 := hS.o.cell 0 rfl; have e1 := hS.o.cell 1 rfl; have e2 := hS.o.cell 2 rfl; have x0 := ox.cell 0 rfl; have x1 := ox.cell 1 rfl; have x2 := ox.cell 2 rfl; have y0 := hS.oy.cell 0 rfl; have y1 := hS.oy.cell 1 rfl; have y2 := hS.oy.cell 2 rfl; have f0 := hS.oy.free 0; have f1 := hS.oy.free 1; have f2 := hS.oy.free 2; clear hx) | (go_at_call 43; (with_reducible refine (HLx _).mono ?_); rintro e8 w8 ⟨rfl, hx⟩; have hS := hS.below hx; have ox := ox.below hx ox.lt; have e0 := hS.o.cell 0 rfl; have e1 := hS.o.cell 1 rfl; have e2 := hS.o.cell 2 rfl; have x0 := ox.cell 0 rfl; have x1 := ox.cell 1 rfl; have x2 := ox.cell 2 rfl; have y0 := hS.oy.cell 0 rfl; have y1 := hS.oy.cell 1 rfl; have y2 := hS.oy.cell 2 rfl; have f0 := hS.oy.free 0; have f1 := hS.oy.free 1; have f2 := hS.oy.free 2; clear hx))
          go_ret
          exact ⟨by rw [E.out, hno.out (by rw [hok.out]; rfl)]; rfl, hS.hb⟩
        | true =>
        cases r3 with
        | false =>
          clear hr4
          go_wp2_with (first | (go_at_call 17; (with_reducible refine (HRx _).mono ?_); rintro e7 w7 ⟨rfl, hx⟩; have hS := hS.below hx; have ox := ox.below hx ox.lt; have e0 := hS.o.cell 0 rfl; have e1 := hS.o.cell 1 rfl; have e2 := hS.o.cell 2 rfl; have x0 := ox.cell 0 rfl; have x1 := ox.cell 1 rfl; have x2 := ox.cell 2 rfl; have y0 := hS.oy.cell 0 rfl; have y1 := hS.oy.cell 1 rfl; have y2 := hS.oy.cell 2 rfl; have f0 := hS.oy.free 0; have f1 := hS.oy.free 1; have f2 := hS.oy.free 2; clear hx) | (go_at_call 43; (with_reducible refine (HLx _).mono ?_); rintro e8 w8 ⟨rfl, hx⟩; have hS := hS.below hx; have ox := ox.below hx ox.lt; have e0 := hS.o.cell 0 rfl; have e1 := hS.o.cell 1 rfl; have e2 := hS.o.cell 2 rfl; have x0 := ox.cell 0 rfl; have x1 := ox.cell 1 rfl; have x2 := ox.cell 2 rfl; have y0 := hS.oy.cell 0 rfl; have y1 := hS.oy.cell 1 rfl; have y2 := hS.oy.cell 2 rfl; have f0 := hS.oy.free 0; have f1 := hS.oy.free 1; have f2 := hS.oy.free 2; clear hx))
          go_roundw
          case rel => exact ⟨k + 1, x, by omega, by go_num, hyes.out (by rw [hok.out]; rfl), hpr, hS.put x⟩
          case measure => simp [intOf]; omega
        | true =>
        cases r4 with
        | true =>
          have hr4 := of_decide_eq_true hr4
          go_wp2_with (first | (go_at_call 17; (with_reducible refine (HRx _).mono ?_); rintro e7 w7 ⟨rfl, hx⟩; have hS := hS.below hx; have ox := ox.below hx ox.lt; have e0 := hS.o.cell 0 rfl; have e1 := hS.o.cell 1 rfl; have e2 := hS.o.cell 2 rfl; have x0 := ox.cell 0 rfl; have x1 := ox.cell 1 rfl; have x2 := ox.cell 2 rfl; have y0 := hS.oy.cell 0 rfl; have y1 := hS.oy.cell 1 rfl; have y2 := hS.oy.cell 2 rfl; have f0 := hS.oy.free 0; have f1 := hS.oy.free 1; have f2 := hS.oy.free 2; clear hx) | (go_at_call 43; (with_reducible refine (HLx _).mono ?_); rintro e8 w8 ⟨rfl, hx⟩; have hS := hS.below hx; have ox := ox.below hx ox.lt; have e0 := hS.o.cell 0 rfl; have e1 := hS.o.cell 1 rfl; have e2 := hS.o.cell 2 rfl; have x0 := ox.cell 0 rfl; have x1 := ox.cell 1 rfl; have x2 := ox.cell 2 rfl; have y0 := hS.oy.cell 0 rfl; have y1 := hS.oy.cell 1 rfl; have y2 := hS.oy.cell 2 rfl; have f0 := hS.oy.free 0; have f1 := hS.oy.free 1; have f2 := hS.oy.free 2; clear hx))
          go_ret
          exact ⟨by rw [E.out, hno.out (by rw [hok.out]; rfl)]; rfl, hS.hb⟩
        | false =>
          have hr4 := of_decide_eq_false hr4
          go_wp2_with (first | (go_at_call 17; (with_reducible refine (HRx _).mono ?_); rintro e7 w7 ⟨rfl, hx⟩; have hS := hS.below hx; have ox := ox.below hx ox.lt; have e0 := hS.o.cell 0 rfl; have e1 := hS.o.cell 1 rfl; have e2 := hS.o.cell 2 rfl; have x0 := ox.cell 0 rfl; have x1 := ox.cell 1 rfl; have x2 := ox.cell 2 rfl; have y0 := hS.oy.cell 0 rfl; have y1 := hS.oy.cell 1 rfl; have y2 := hS.oy.cell 2 rfl; have f0 := hS.oy.free 0; have f1 := hS.oy.free 1; have f2 := hS.oy.free 2; clear hx) | (go_at_call 43; (with_reducible refine (HLx _).mono ?_); rintro e8 w8 ⟨rfl, hx⟩; have hS := hS.below hx; have ox := ox.below hx ox.lt; have e0 := hS.o.cell 0 rfl; have e1 := hS.o.cell 1 rfl; have e2 := hS.o.cell 2 rfl; have x0 := ox.cell 0 rfl; have x1 := ox.cell 1 rfl; have x2 := ox.cell 2 rfl; have y0 := hS.oy.cell 0 rfl; have y1 := hS.oy.cell 1 rfl; have y2 := hS.oy.cell 2 rfl; have f0 := hS.oy.free 0; have f1 := hS.oy.free 1; have f2 := hS.oy.free 2; clear hx))
          go_roundw
          case rel => exact ⟨k + 1, x, by omega, by go_num, hyes.out (by rw [hok.out]; rfl), hpr, hS.put x⟩
          case measure => simp [intOf]; omega
      · obtain rfl : k = n := by omega
        have hfull : Hid ((List.range k).all (okO e.over e.dot) = true) := by
          show _ = _
          rw [List.all_eq_true]
          intro j hj
          exact hall.out j (List.mem_range.1 hj)
        have hbb := hS.hb
        clear hall hy hS
        go_wp2
        go_ret
        exact ⟨by rw [E.out, hfull.out]; rfl, hbb⟩
end Go.Proofs.YtkakcdojbgnocaaGreatDoor

/- The program's own contracts of layer 20: an item, packed. -/
namespace Go.Proofs.YtkakcdojbgnocaaGreatDoor
open Go.RowKit
set_option linter.unusedVariables false

theorem fitD_of {x : DotN} (h : rightD x = true) : FitD x := by
  have := right_range h
  exact ⟨by unfold is64; omega, by unfold is64; omega, by unfold is64; omega⟩

theorem item_len (x : ItemL) (h : rightX x = true) (hd : x.dom.length ≤ 2000) : (itemBytes x).length ≤ 9000 := by
  obtain ⟨i1, i2, i3, ⟨i4, i5⟩, ⟨i6, i7⟩, i8, i9⟩ := right_item h
  obtain ⟨X, hX, hXl⟩ := fold_nat x.exp (by omega) (by omega)
  have e : itemBytes x = textBytes (str x.name) ++ textBytes (str x.dom) ++ textBytes (str x.path) ++ textBytes (str x.val) ++ short X ++ short x.made.toNat ++ short x.used.toNat := by
    unfold itemBytes textBytes
    rw [hX, str_size, str_size, str_size, str_size, Int.toNat_natCast]
  rw [e]
  simp only [List.length_append]
  have := textB_len x.name (by omega)
  have := textB_len x.dom hd
  have := textB_len x.path (by omega)
  have := textB_len x.val (by omega)
  have := short_ten X hXl
  have := short_ten x.made.toNat (by omega)
  have := short_ten x.used.toNat (by omega)
  omega

set_option maxHeartbeats 4000000 in
set_option maxRecDepth 100000 in
theorem putItemC (base p : Nat) (a : Option Addr) (l : List Int) (x : ItemL) (w : World) (hw : Wr 5 base p a l w) (hlen : l.length ≤ 1000000) (hbase : base ≤ w.heap.size) (h : rightX x = true) (hd : x.dom.length ≤ 2000) :
    Calls Tryz.prog 29 #[.pointer (some ⟨p, 0, none⟩), .agg #[.string (str x.name), .string (str x.dom), .string (str x.path), .string (str x.val), .bool x.host, .bool x.sec, .bool x.http, .bool x.pers, .int .i64 x.exp, .int .i64 x.made, .int .i64 x.used]] w (PutGives base p a (l ++ itemBytes x) w) := by
  obtain ⟨i1, i2, i3, ⟨i4, i5⟩, ⟨i6, i7⟩, i8, i9⟩ := right_item h
  obtain ⟨X, hX, hXl⟩ := fold_nat x.exp (by omega) (by omega)
  obtain ⟨M1, hM1⟩ := Int.eq_ofNat_of_zero_le i6
  obtain ⟨M2, hM2⟩ := Int.eq_ofNat_of_zero_le i8
  have E : Hid (l ++ itemBytes x = l ++ textBytes (str x.name) ++ textBytes (str x.dom) ++ textBytes (str x.path) ++ textBytes (str x.val) ++ short X ++ short M1 ++ short M2) := by
    show _ = _
    unfold itemBytes textBytes
    rw [hX, hM1, hM2, str_size, str_size, str_size, str_size, Int.toNat_natCast, Int.toNat_natCast, Int.toNat_natCast]
    simp only [List.append_assoc]
  have t1 := textB_len x.name (by omega)
  have t2 := textB_len x.dom hd
  have t3 := textB_len x.path (by omega)
  have t4 := textB_len x.val (by omega)
  have t5 := short_ten X hXl
  have t6 := short_ten M1 (by omega)
  obtain ⟨l1, hl1⟩ : ∃ k, l ++ textBytes (str x.name) = k := ⟨_, rfl⟩
  obtain ⟨l2, hl2⟩ : ∃ k, l1 ++ textBytes (str x.dom) = k := ⟨_, rfl⟩
  obtain ⟨l3, hl3⟩ : ∃ k, l2 ++ textBytes (str x.path) = k := ⟨_, rfl⟩
  obtain ⟨l4, hl4⟩ : ∃ k, l3 ++ textBytes (str x.val) = k := ⟨_, rfl⟩
  obtain ⟨l5, hl5⟩ : ∃ k, l4 ++ short X = k := ⟨_, rfl⟩
  obtain ⟨l6, hl6⟩ : ∃ k, l5 ++ short M1 = k := ⟨_, rfl⟩
  obtain ⟨l7, hl7⟩ : ∃ k, l6 ++ short M2 = k := ⟨_, rfl⟩
  have L1 : l1.length ≤ 1002010 := by rw [← hl1, List.length_append]; omega
  have L2 : l2.length ≤ 1004020 := by rw [← hl2, List.length_append]; omega
  have L3 : l3.length ≤ 1006030 := by rw [← hl3, List.length_append]; omega
  have L4 : l4.length ≤ 1008040 := by rw [← hl4, List.length_append]; omega
  have L5 : l5.length ≤ 1008050 := by rw [← hl5, List.length_append]; omega
  have L6 : l6.length ≤ 1008060 := by rw [← hl6, List.length_append]; omega
  rw [hl1, hl2, hl3, hl4, hl5, hl6, hl7] at E
  have H1 := fun a w hw hb => wTextC base p (str x.name) a l w hw (by omega) hb (by rw [str_size]; omega)
  have H2 := fun a w hw hb => wTextC base p (str x.dom) a l1 w hw (by omega) hb (by rw [str_size]; omega)
  have H3 := fun a w hw hb => wTextC base p (str x.path) a l2 w hw (by omega) hb (by rw [str_size]; omega)
  have H4 := fun a w hw hb => wTextC base p (str x.val) a l3 w hw (by omega) hb (by rw [str_size]; omega)
  have H5 := fun a w hw hb => wIntC base p X x.exp a l4 w hw (by omega) hb hX hXl (by omega) (by omega)
  have H6 := fun a w hw hb => wNumC base p M1 a l5 w hw (by omega) hb (by omega)
  have H7 := fun a w hw hb => wNumC base p M2 a l6 w hw (by omega) hb (by omega)
  rw [hl1] at H1
  rw [hl2] at H2
  rw [hl3] at H3
  rw [hl4] at H4
  rw [hl5] at H5
  rw [hl6] at H6
  rw [hl7] at H7
  have q1 : IntKind.u64.wrap (M1 : Int) = (M1 : Int) := by rw [IntKind.wrap_u64]; omega
  have q2 : IntKind.u64.wrap (M2 : Int) = (M2 : Int) := by rw [IntKind.wrap_u64]; omega
  have hS := (PutSt.new hw hbase).more #[.string (str x.name), .string (str x.dom), .string (str x.path), .string (str x.val), .bool x.host, .bool x.sec, .bool x.http, .bool x.pers, .int .i64 x.exp, .int .i64 x.made, .int .i64 x.used] 38
  clear hl1 hl2 hl3 hl4 hl5 hl6 hl7 L1 L2 L3 L4 L5 L6 t1 t2 t3 t4 t5 t6 i1 i2 i3 i4 i5 i6 i7 i8 i9 hXl hd h hlen hX
  rw [hM1, hM2] at hS
  obtain ⟨nm, dm, pa, va, f1, f2, f3, f4, ex, cr, ac⟩ := x
  dsimp only at *
  subst hM1 hM2
  generalize hv : w.alloc (.cells #[.string (str nm), .string (str dm), .string (str pa), .string (str va), .bool f1, .bool f2, .bool f3, .bool f4, .int .i64 ex, .int .i64 (M1 : Int), .int .i64 (M2 : Int)] 38) = v at *
  rw [E.out]
  go_enter Tryz.func29, Tryz.ntmps29
  go_wp2_with fail
  have hS := hS.below ((Below.refl v.heap.size v).drew)
  go_region_held3 (fun w' => w'.cell? ⟨w.heap.size, 0, none⟩ = some (.string (str nm)) ∧ w'.cell? ⟨w.heap.size, 1, none⟩ = some (.string (str dm)) ∧ w'.cell? ⟨w.heap.size, 2, none⟩ = some (.string (str pa)) ∧ w'.cell? ⟨w.heap.size, 3, none⟩ = some (.string (str va)))
    (exact ⟨(hS.obs _ (List.mem_cons_self ..)).1.cell 0 rfl, (hS.obs _ (List.mem_cons_self ..)).1.cell 1 rfl, (hS.obs _ (List.mem_cons_self ..)).1.cell 2 rfl, (hS.obs _ (List.mem_cons_self ..)).1.cell 3 rfl⟩)
    (first | (go_at_call 52; (with_reducible refine (H1 _ _ hS.wr hS.hb).mono ?_); rintro e3 w3 ⟨rfl, a3, hw3, k3, n3⟩; have hS := hS.step hw3 k3 n3; clear hw3 k3 n3) | (go_at_call 52; (with_reducible refine (H2 _ _ hS.wr hS.hb).mono ?_); rintro e3 w3 ⟨rfl, a3, hw3, k3, n3⟩; have hS := hS.step hw3 k3 n3; clear hw3 k3 n3) | (go_at_call 52; (with_reducible refine (H3 _ _ hS.wr hS.hb).mono ?_); rintro e3 w3 ⟨rfl, a3, hw3, k3, n3⟩; have hS := hS.step hw3 k3 n3; clear hw3 k3 n3) | (go_at_call 52; (with_reducible refine (H4 _ _ hS.wr hS.hb).mono ?_); rintro e3 w3 ⟨rfl, a3, hw3, k3, n3⟩; have hS := hS.step hw3 k3 n3; clear hw3 k3 n3))
  all_goals (
    go_wp2_with fail
    have hS := hS.below ((Below.refl _ _).drew)
    go_region_held3 (fun w' => w'.cell? ⟨w.heap.size, 8, none⟩ = some (.int .i64 ex) ∧ w'.cell? ⟨w.heap.size, 9, none⟩ = some (.int .i64 (M1 : Int)) ∧ w'.cell? ⟨w.heap.size, 10, none⟩ = some (.int .i64 (M2 : Int)))
      (exact ⟨(hS.obs _ (List.mem_cons_self ..)).1.cell 8 rfl, (hS.obs _ (List.mem_cons_self ..)).1.cell 9 rfl, (hS.obs _ (List.mem_cons_self ..)).1.cell 10 rfl⟩)
      (first | (go_at_call 53; (with_reducible refine (H5 _ _ hS.wr hS.hb).mono ?_); rintro e3 w3 ⟨rfl, a3, hw3, k3, n3⟩; have hS := hS.step hw3 k3 n3; clear hw3 k3 n3) | (go_at_call 28; (with_reducible refine (H6 _ _ hS.wr hS.hb).mono ?_); rintro e3 w3 ⟨rfl, a3, hw3, k3, n3⟩; have hS := hS.step hw3 k3 n3; clear hw3 k3 n3) | (go_at_call 28; (with_reducible refine (H7 _ _ hS.wr hS.hb).mono ?_); rintro e3 w3 ⟨rfl, a3, hw3, k3, n3⟩; have hS := hS.step hw3 k3 n3; clear hw3 k3 n3))
    all_goals (
      go_wp2
      go_end0
      exact hS.gives))
end Go.Proofs.YtkakcdojbgnocaaGreatDoor

/- The program's own contracts of layer 20: flags read into the places that are given. -/
namespace Go.Proofs.YtkakcdojbgnocaaGreatDoor
open Go.RowKit
set_option linter.unusedVariables false

/-- Behind k rounds: the first k places have their flags. -/
structure FlSt (p P B g base : Nat) (d : DotN) (s : StampN) (kd : Int) (f0 f1 f2 f3 f4 : Bool) (r : List Int) (a : Option Addr) (c : Nat) (w : World) (k : Nat) (v : World) : Prop where
  rd : Rd p r v
  oP : ObjAt v P [.bool (decide (0 < k) && f0)]
  oB : ObjAt v B [.int .i64 d.dev, .int .i64 d.inc, .int .i64 d.seq, .int .i64 s.wall, .int .i64 s.count, .int .i64 s.dev, .int .i64 kd, .string ⟨#[]⟩, .string ⟨#[]⟩, .string ⟨#[]⟩, .string ⟨#[]⟩, .bool (decide (1 < k) && f1), .bool (decide (2 < k) && f2), .bool (decide (3 < k) && f3), .bool (decide (4 < k) && f4), .int .i64 0, .int .i64 0, .int .i64 0, .slice none 0 0]
  og : ObjAt v g [.pointer (some ⟨P, 0, none⟩), .pointer (some ⟨B, 11, none⟩), .pointer (some ⟨B, 12, none⟩), .pointer (some ⟨B, 13, none⟩), .pointer (some ⟨B, 14, none⟩)]
  row : Owned base 4 a 5 c ([f0, f1, f2, f3, f4].map Value.bool) v
  K : Keeps (fun k => k = p ∨ k = P ∨ k = B) w v

set_option maxHeartbeats 4000000 in
set_option maxRecDepth 100000 in
theorem getFlagsC (p P B g : Nat) (d : DotN) (s : StampN) (kd : Int) (f0 f1 f2 f3 f4 : Bool) (r l : List Int) (w : World) (hr : Rd p l w) (hl : (flagSum [f0, f1, f2, f3, f4] : Int) :: r = l)
    (oP : ObjAt w P [.bool false]) (oB : ObjAt w B [.int .i64 d.dev, .int .i64 d.inc, .int .i64 d.seq, .int .i64 s.wall, .int .i64 s.count, .int .i64 s.dev, .int .i64 kd, .string ⟨#[]⟩, .string ⟨#[]⟩, .string ⟨#[]⟩, .string ⟨#[]⟩, .bool false, .bool false, .bool false, .bool false, .int .i64 0, .int .i64 0, .int .i64 0, .slice none 0 0]) (og : ObjAt w g [.pointer (some ⟨P, 0, none⟩), .pointer (some ⟨B, 11, none⟩), .pointer (some ⟨B, 12, none⟩), .pointer (some ⟨B, 13, none⟩), .pointer (some ⟨B, 14, none⟩)])
    (h1 : P ≠ B) (h2 : P ≠ p) (h3 : B ≠ p) (h4 : g ≠ P) (h5 : g ≠ B) (h6 : g ≠ p) :
    Calls Tryz.prog 56 #[.pointer (some ⟨p, 0, none⟩), .slice (some ⟨g, 0, none⟩) 5 5] w fun en w' => en = .returned (.tuple #[]) ∧ Rd p r w' ∧ ObjAt w' P [.bool f0] ∧ ObjAt w' B [.int .i64 d.dev, .int .i64 d.inc, .int .i64 d.seq, .int .i64 s.wall, .int .i64 s.count, .int .i64 s.dev, .int .i64 kd, .string ⟨#[]⟩, .string ⟨#[]⟩, .string ⟨#[]⟩, .string ⟨#[]⟩, .bool f1, .bool f2, .bool f3, .bool f4, .int .i64 0, .int .i64 0, .int .i64 0, .slice none 0 0] ∧ Keeps (fun k => k = p ∨ k = P ∨ k = B) w w' := by
  have HF := rFlagsC p 5 [f0, f1, f2, f3, f4] r l w hr hl rfl (by omega)
  unfold FlagsGives at HF
  rw [show ((5 : Nat) : Int) = 5 from rfl] at HF
  have hPl := oP.lt
  have hBl := oB.lt
  clear hr hl
  go_enter Tryz.func56, Tryz.ntmps56
  go_wp2_with (go_at_call 74; (with_reducible refine HF.mono ?_); rintro e1 w1 ⟨a, c, rfl, ho, hr1, k1⟩)
  have hS0 : Hid (FlSt p P B g w.heap.size d s kd f0 f1 f2 f3 f4 r a c w 0 w1) := by
    have hk := Keeps.ofKept k1
    exact ⟨hr1, oP.keeps hk (fun c => c.elim h2 (fun c => at_none _ c)), oB.keeps hk (fun c => c.elim h3 (fun c => at_none _ c)), og.keeps hk (fun c => c.elim h6 (fun c => at_none _ c)), ho, hk.mono (fun k _ c => c.elim .inl (fun c => absurd c (at_none _)))⟩
  obtain ⟨b, rfl, hb0, hb1⟩ := ho.head (by omega)
  clear ho k1 hr1 oP oB og HF
  go_loopw [11] (fun i wr => ∃ k : Nat, k ≤ 5 ∧ i = .int .i64 (k : Int) ∧ FlSt p P B g w.heap.size d s kd f0 f1 f2 f3 f4 r (some ⟨b, 0, none⟩) c w k wr) (fun i _ => 5 - (intOf i).toNat)
  case atStart => exact ⟨0, by omega, rfl, hS0.out⟩
  case round =>
    clear hS0
    obtain ⟨k, hk, rfl, hS⟩ := hrel
    have hcase : k = 0 ∨ k = 1 ∨ k = 2 ∨ k = 3 ∨ k = 4 ∨ k = 5 := by omega
    have hbP : b ≠ P := by omega
    have hbB : b ≠ B := by omega
    rcases hcase with rfl | rfl | rfl | rfl | rfl | rfl
    · have oP : ObjAt wr P [.bool false] := hS.oP
      have oB : ObjAt wr B [.int .i64 d.dev, .int .i64 d.inc, .int .i64 d.seq, .int .i64 s.wall, .int .i64 s.count, .int .i64 s.dev, .int .i64 kd, .string ⟨#[]⟩, .string ⟨#[]⟩, .string ⟨#[]⟩, .string ⟨#[]⟩, .bool false, .bool false, .bool false, .bool false, .int .i64 0, .int .i64 0, .int .i64 0, .slice none 0 0] := hS.oB
      have q0 := hS.og.cell 0 rfl
      obtain ⟨b', off', he, q1⟩ := hS.row.reads 0 (.bool f0) rfl
      cases he
      have q2 := oP.cell 0 rfl
      have q3 := oP.free 0
      have hS2 : Hid (FlSt p P B g w.heap.size d s kd f0 f1 f2 f3 f4 r (some ⟨b, 0, none⟩) c w 1 (wr.setCell ⟨P, 0, none⟩ (.bool f0))) :=
        ⟨(hS.rd.inside.free oP (by intro v hv n; simp only [List.mem_cons, List.not_mem_nil, or_false] at hv; rcases hv with rfl <;> (intro h; cases h)) h2 0 _).rd, oP.set 0 _, oB.other (p := ⟨P, 0, none⟩) h1 _, hS.og.other (p := ⟨P, 0, none⟩) (fun e => h4 e.symm) _, hS.row.setCell (p := ⟨P, 0, none⟩) (apart_iff.2 fun hk => hbP (at_some.1 hk)) _, hS.K.setCell (x := ⟨P, 0, none⟩) (.inr (.inl rfl)) _⟩
      clear hS oP oB
      go_wp2
      go_roundw
      case rel => exact ⟨1, by omega, by go_num, hS2.out⟩
      case measure => simp [intOf]
    · have oP : ObjAt wr P [.bool f0] := hS.oP
      have oB : ObjAt wr B [.int .i64 d.dev, .int .i64 d.inc, .int .i64 d.seq, .int .i64 s.wall, .int .i64 s.count, .int .i64 s.dev, .int .i64 kd, .string ⟨#[]⟩, .string ⟨#[]⟩, .string ⟨#[]⟩, .string ⟨#[]⟩, .bool false, .bool false, .bool false, .bool false, .int .i64 0, .int .i64 0, .int .i64 0, .slice none 0 0] := hS.oB
      have q0 := hS.og.cell 1 rfl
      obtain ⟨b', off', he, q1⟩ := hS.row.reads 1 (.bool f1) rfl
      cases he
      have q2 := oB.cell 11 rfl
      have q3 := oB.free 11
      have hS2 : Hid (FlSt p P B g w.heap.size d s kd f0 f1 f2 f3 f4 r (some ⟨b, 0, none⟩) c w 2 (wr.setCell ⟨B, 11, none⟩ (.bool f1))) :=
        ⟨(hS.rd.inside.free oB (by intro v hv n; simp only [List.mem_cons, List.not_mem_nil, or_false] at hv; rcases hv with rfl | rfl | rfl | rfl | rfl | rfl | rfl | rfl | rfl | rfl | rfl | rfl | rfl | rfl | rfl | rfl | rfl | rfl | rfl <;> (intro h; cases h)) h3 11 _).rd, oP.other (p := ⟨B, 11, none⟩) (fun e => h1 e.symm) _, oB.set 11 _, hS.og.other (p := ⟨B, 11, none⟩) (fun e => h5 e.symm) _, hS.row.setCell (p := ⟨B, 11, none⟩) (apart_iff.2 fun hk => hbB (at_some.1 hk)) _, hS.K.setCell (x := ⟨B, 11, none⟩) (.inr (.inr rfl)) _⟩
      clear hS oP oB
      go_wp2
      go_roundw
      case rel => exact ⟨2, by omega, by go_num, hS2.out⟩
      case measure => simp [intOf]
    · have oP : ObjAt wr P [.bool f0] := hS.oP
      have oB : ObjAt wr B [.int .i64 d.dev, .int .i64 d.inc, .int .i64 d.seq, .int .i64 s.wall, .int .i64 s.count, .int .i64 s.dev, .int .i64 kd, .string ⟨#[]⟩, .string ⟨#[]⟩, .string ⟨#[]⟩, .string ⟨#[]⟩, .bool f1, .bool false, .bool false, .bool false, .int .i64 0, .int .i64 0, .int .i64 0, .slice none 0 0] := hS.oB
      have q0 := hS.og.cell 2 rfl
      obtain ⟨b', off', he, q1⟩ := hS.row.reads 2 (.bool f2) rfl
      cases he
      have q2 := oB.cell 12 rfl
      have q3 := oB.free 12
      have hS2 : Hid (FlSt p P B g w.heap.size d s kd f0 f1 f2 f3 f4 r (some ⟨b, 0, none⟩) c w 3 (wr.setCell ⟨B, 12, none⟩ (.bool f2))) :=
        ⟨(hS.rd.inside.free oB (by intro v hv n; simp only [List.mem_cons, List.not_mem_nil, or_false] at hv; rcases hv with rfl | rfl | rfl | rfl | rfl | rfl | rfl | rfl | rfl | rfl | rfl | rfl | rfl | rfl | rfl | rfl | rfl | rfl | rfl <;> (intro h; cases h)) h3 12 _).rd, oP.other (p := ⟨B, 12, none⟩) (fun e => h1 e.symm) _, oB.set 12 _, hS.og.other (p := ⟨B, 12, none⟩) (fun e => h5 e.symm) _, hS.row.setCell (p := ⟨B, 12, none⟩) (apart_iff.2 fun hk => hbB (at_some.1 hk)) _, hS.K.setCell (x := ⟨B, 12, none⟩) (.inr (.inr rfl)) _⟩
      clear hS oP oB
      go_wp2
      go_roundw
      case rel => exact ⟨3, by omega, by go_num, hS2.out⟩
      case measure => simp [intOf]
    · have oP : ObjAt wr P [.bool f0] := hS.oP
      have oB : ObjAt wr B [.int .i64 d.dev, .int .i64 d.inc, .int .i64 d.seq, .int .i64 s.wall, .int .i64 s.count, .int .i64 s.dev, .int .i64 kd, .string ⟨#[]⟩, .string ⟨#[]⟩, .string ⟨#[]⟩, .string ⟨#[]⟩, .bool f1, .bool f2, .bool false, .bool false, .int .i64 0, .int .i64 0, .int .i64 0, .slice none 0 0] := hS.oB
      have q0 := hS.og.cell 3 rfl
      obtain ⟨b', off', he, q1⟩ := hS.row.reads 3 (.bool f3) rfl
      cases he
      have q2 := oB.cell 13 rfl
      have q3 := oB.free 13
      have hS2 : Hid (FlSt p P B g w.heap.size d s kd f0 f1 f2 f3 f4 r (some ⟨b, 0, none⟩) c w 4 (wr.setCell ⟨B, 13, none⟩ (.bool f3))) :=
        ⟨(hS.rd.inside.free oB (by intro v hv n; simp only [List.mem_cons, List.not_mem_nil, or_false] at hv; rcases hv with rfl | rfl | rfl | rfl | rfl | rfl | rfl | rfl | rfl | rfl | rfl | rfl | rfl | rfl | rfl | rfl | rfl | rfl | rfl <;> (intro h; cases h)) h3 13 _).rd, oP.other (p := ⟨B, 13, none⟩) (fun e => h1 e.symm) _, oB.set 13 _, hS.og.other (p := ⟨B, 13, none⟩) (fun e => h5 e.symm) _, hS.row.setCell (p := ⟨B, 13, none⟩) (apart_iff.2 fun hk => hbB (at_some.1 hk)) _, hS.K.setCell (x := ⟨B, 13, none⟩) (.inr (.inr rfl)) _⟩
      clear hS oP oB
      go_wp2
      go_roundw
      case rel => exact ⟨4, by omega, by go_num, hS2.out⟩
      case measure => simp [intOf]
    · have oP : ObjAt wr P [.bool f0] := hS.oP
      have oB : ObjAt wr B [.int .i64 d.dev, .int .i64 d.inc, .int .i64 d.seq, .int .i64 s.wall, .int .i64 s.count, .int .i64 s.dev, .int .i64 kd, .string ⟨#[]⟩, .string ⟨#[]⟩, .string ⟨#[]⟩, .string ⟨#[]⟩, .bool f1, .bool f2, .bool f3, .bool false, .int .i64 0, .int .i64 0, .int .i64 0, .slice none 0 0] := hS.oB
      have q0 := hS.og.cell 4 rfl
      obtain ⟨b', off', he, q1⟩ := hS.row.reads 4 (.bool f4) rfl
      cases he
      have q2 := oB.cell 14 rfl
      have q3 := oB.free 14
      have hS2 : Hid (FlSt p P B g w.heap.size d s kd f0 f1 f2 f3 f4 r (some ⟨b, 0, none⟩) c w 5 (wr.setCell ⟨B, 14, none⟩ (.bool f4))) :=
        ⟨(hS.rd.inside.free oB (by intro v hv n; simp only [List.mem_cons, List.not_mem_nil, or_false] at hv; rcases hv with rfl | rfl | rfl | rfl | rfl | rfl | rfl | rfl | rfl | rfl | rfl | rfl | rfl | rfl | rfl | rfl | rfl | rfl | rfl <;> (intro h; cases h)) h3 14 _).rd, oP.other (p := ⟨B, 14, none⟩) (fun e => h1 e.symm) _, oB.set 14 _, hS.og.other (p := ⟨B, 14, none⟩) (fun e => h5 e.symm) _, hS.row.setCell (p := ⟨B, 14, none⟩) (apart_iff.2 fun hk => hbB (at_some.1 hk)) _, hS.K.setCell (x := ⟨B, 14, none⟩) (.inr (.inr rfl)) _⟩
      clear hS oP oB
      go_wp2
      go_roundw
      case rel => exact ⟨5, by omega, by go_num, hS2.out⟩
      case measure => simp [intOf]
    · have oP : ObjAt wr P [.bool f0] := hS.oP
      have oB : ObjAt wr B [.int .i64 d.dev, .int .i64 d.inc, .int .i64 d.seq, .int .i64 s.wall, .int .i64 s.count, .int .i64 s.dev, .int .i64 kd, .string ⟨#[]⟩, .string ⟨#[]⟩, .string ⟨#[]⟩, .string ⟨#[]⟩, .bool f1, .bool f2, .bool f3, .bool f4, .int .i64 0, .int .i64 0, .int .i64 0, .slice none 0 0] := hS.oB
      have hrd := hS.rd
      have hK := hS.K
      clear hS
      go_wp2
      go_end0
      exact ⟨rfl, hrd, oP, oB, hK⟩
end Go.Proofs.YtkakcdojbgnocaaGreatDoor

/- The program's own contracts of layer 20: an item read, but for its flags. -/
namespace Go.Proofs.YtkakcdojbgnocaaGreatDoor
open Go.RowKit
set_option linter.unusedVariables false

theorem item_dom {x : ItemL} (h : rightX x = true) : x.dom.length ≤ 256 := by
  rw [right_parts] at h
  unfold keyB at h
  simp only [Bool.and_eq_true] at h
  exact canon_len h.1.2.2.1

set_option maxHeartbeats 4000000 in
set_option maxRecDepth 100000 in
theorem getItemC {F : Nat → Prop} {p : Nat} {w : World} {B : Nat} {Os : List (Nat × List Value)} {l : List Int} {v : World} (d : DotN) (s : StampN) (kd : Int) (h0 h1 h2 h3 : Bool) (sl : Value) (x : ItemL) (r : List Int)
    (hS : GetSt F p w B [.int .i64 d.dev, .int .i64 d.inc, .int .i64 d.seq, .int .i64 s.wall, .int .i64 s.count, .int .i64 s.dev, .int .i64 kd, .string ⟨#[]⟩, .string ⟨#[]⟩, .string ⟨#[]⟩, .string ⟨#[]⟩, .bool h0, .bool h1, .bool h2, .bool h3, .int .i64 0, .int .i64 0, .int .i64 0, sl] Os l v) (hl : itemBytes x ++ r = l) (hb : IsBytes l) (h : rightX x = true) :
    Calls Tryz.prog 58 #[.pointer (some ⟨p, 0, none⟩), .pointer (some ⟨B, 0, none⟩)] v fun en v' => en = .returned (.tuple #[]) ∧ (∃ H : Nat → Prop, GetSt H p w B [.int .i64 d.dev, .int .i64 d.inc, .int .i64 d.seq, .int .i64 s.wall, .int .i64 s.count, .int .i64 s.dev, .int .i64 kd, .string (str x.name), .string (str x.dom), .string (str x.path), .string (str x.val), .bool h0, .bool h1, .bool h2, .bool h3, .int .i64 x.exp, .int .i64 x.made, .int .i64 x.used, sl] Os r v') ∧ Keeps (fun k => k = p ∨ k = B) v v' := by
  obtain ⟨i1, i2, i3, ⟨i4, i5⟩, ⟨i6, i7⟩, i8, i9⟩ := right_item h
  have i10 := item_dom h
  obtain ⟨X, hX, hXl⟩ := fold_nat x.exp (by omega) (by omega)
  obtain ⟨M1, hM1⟩ := Int.eq_ofNat_of_zero_le i6
  obtain ⟨M2, hM2⟩ := Int.eq_ofNat_of_zero_le i8
  obtain ⟨XK, hXK⟩ : ∃ k, x.exp.natAbs = k := ⟨_, rfl⟩
  have E : textBytes (str x.name) ++ (textBytes (str x.dom) ++ (textBytes (str x.path) ++ (textBytes (str x.val) ++ (short X ++ (short M1 ++ (short M2 ++ r)))))) = l := by
    rw [← hl]
    unfold itemBytes textBytes
    rw [hX, hM1, hM2, str_size, str_size, str_size, str_size, Int.toNat_natCast, Int.toNat_natCast, Int.toNat_natCast]
    simp only [List.append_assoc]
  clear hl
  obtain ⟨l6, hl6⟩ : ∃ k, short M2 ++ r = k := ⟨_, rfl⟩
  obtain ⟨l5, hl5⟩ : ∃ k, short M1 ++ l6 = k := ⟨_, rfl⟩
  obtain ⟨l4, hl4⟩ : ∃ k, short X ++ l5 = k := ⟨_, rfl⟩
  obtain ⟨l3, hl3⟩ : ∃ k, textBytes (str x.val) ++ l4 = k := ⟨_, rfl⟩
  obtain ⟨l2, hl2⟩ : ∃ k, textBytes (str x.path) ++ l3 = k := ⟨_, rfl⟩
  obtain ⟨l1, hl1⟩ : ∃ k, textBytes (str x.dom) ++ l2 = k := ⟨_, rfl⟩
  rw [hl6, hl5, hl4, hl3, hl2, hl1] at E
  have b1 : IsBytes l1 := fun y hy => hb y (by rw [← E]; exact List.mem_append_right _ hy)
  have b2 : IsBytes l2 := fun y hy => b1 y (by rw [← hl1]; exact List.mem_append_right _ hy)
  have b3 : IsBytes l3 := fun y hy => b2 y (by rw [← hl2]; exact List.mem_append_right _ hy)
  have b4 : IsBytes l4 := fun y hy => b3 y (by rw [← hl3]; exact List.mem_append_right _ hy)
  have b5 : IsBytes l5 := fun y hy => b4 y (by rw [← hl4]; exact List.mem_append_right _ hy)
  have b6 : IsBytes l6 := fun y hy => b5 y (by rw [← hl5]; exact List.mem_append_right _ hy)
  have H1 := fun w hr => rTextC p x.name.length (str x.name) l1 l 256 w hr (str_size _) E hb (by omega) (by omega) (by omega)
  have H2 := fun w hr => rTextC p x.dom.length (str x.dom) l2 l1 256 w hr (str_size _) hl1 b1 (by omega) (by omega) (by omega)
  have H3 := fun w hr => rTextC p x.path.length (str x.path) l3 l2 256 w hr (str_size _) hl2 b2 (by omega) (by omega) (by omega)
  have H4 := fun w hr => rTextC p x.val.length (str x.val) l4 l3 1024 w hr (str_size _) hl3 b3 (by omega) (by omega) (by omega)
  have H5 := fun w hr => rIntC p X XK x.exp l5 l4 1099511627776 w hr hl4 b4 hX hXl (by omega) (by omega) hXK (by omega) (by omega)
  have H6 := fun w hr => rNumC p M1 l6 l5 1099511627776 w hr hl5 b5 (by omega) (by omega)
  have H7 := fun w hr => rNumC p M2 r l6 1099511627776 w hr hl6 b6 (by omega) (by omega)
  have q1 : IntKind.i64.wrap (M1 : Int) = (M1 : Int) := by rw [IntKind.wrap_i64]; omega
  have q2 : IntKind.i64.wrap (M2 : Int) = (M2 : Int) := by rw [IntKind.wrap_i64]; omega
  clear E hl1 hl2 hl3 hl4 hl5 hl6 b1 b2 b3 b4 b5 b6 i1 i2 i3 i4 i5 i6 i7 i8 i9 i10 hX hXl hXK hb h
  obtain ⟨nm, dm, pa, va, f1, f2, f3, f4, ex, cr, ac⟩ := x
  dsimp only at *
  subst hM1 hM2
  have KK := Keeps.refl (fun k => k = p ∨ k = B) v
  go_enter Tryz.func58, Tryz.ntmps58
  go_wp2_with (first
    | (go_at_call 76; (with_reducible refine (H1 _ hS.rd.rd).mono ?_); rintro e1 w1 ⟨rfl, rd1, k1⟩; replace hS := hS.stepR rd1 k1; have c7 := hS.o.cell 7 rfl; have g7 := hS.o.free 7; replace KK := (KK.trans (Keeps.ofKept k1) (fun k _ h => h.elim .inl (fun h => absurd h (at_none k)))).setCell (x := ⟨B, 7, none⟩) (.inr rfl) (.string (str nm)); replace hS := hS.set 7 (str_nb (str nm)); clear rd1 k1)
    | (go_at_call 76; (with_reducible refine (H2 _ hS.rd.rd).mono ?_); rintro e1 w1 ⟨rfl, rd1, k1⟩; replace hS := hS.stepR rd1 k1; have c8 := hS.o.cell 8 rfl; have g8 := hS.o.free 8; replace KK := (KK.trans (Keeps.ofKept k1) (fun k _ h => h.elim .inl (fun h => absurd h (at_none k)))).setCell (x := ⟨B, 8, none⟩) (.inr rfl) (.string (str dm)); replace hS := hS.set 8 (str_nb (str dm)); clear rd1 k1)
    | (go_at_call 76; (with_reducible refine (H3 _ hS.rd.rd).mono ?_); rintro e1 w1 ⟨rfl, rd1, k1⟩; replace hS := hS.stepR rd1 k1; have c9 := hS.o.cell 9 rfl; have g9 := hS.o.free 9; replace KK := (KK.trans (Keeps.ofKept k1) (fun k _ h => h.elim .inl (fun h => absurd h (at_none k)))).setCell (x := ⟨B, 9, none⟩) (.inr rfl) (.string (str pa)); replace hS := hS.set 9 (str_nb (str pa)); clear rd1 k1)
    | (go_at_call 76; (with_reducible refine (H4 _ hS.rd.rd).mono ?_); rintro e1 w1 ⟨rfl, rd1, k1⟩; replace hS := hS.stepR rd1 k1; have c10 := hS.o.cell 10 rfl; have g10 := hS.o.free 10; replace KK := (KK.trans (Keeps.ofKept k1) (fun k _ h => h.elim .inl (fun h => absurd h (at_none k)))).setCell (x := ⟨B, 10, none⟩) (.inr rfl) (.string (str va)); replace hS := hS.set 10 (str_nb (str va)); clear rd1 k1)
    | (go_at_call 77; (with_reducible refine (H5 _ hS.rd.rd).mono ?_); rintro e1 w1 ⟨rfl, rd1, k1⟩; replace hS := hS.stepR rd1 k1; have c15 := hS.o.cell 15 rfl; have g15 := hS.o.free 15; replace KK := (KK.trans (Keeps.ofKept k1) (fun k _ h => h.elim .inl (fun h => absurd h (at_none k)))).setCell (x := ⟨B, 15, none⟩) (.inr rfl) (.int .i64 ex); replace hS := hS.set 15 (i64_nb ex); clear rd1 k1)
    | (go_at_call 57; (with_reducible refine (H6 _ hS.rd.rd).mono ?_); rintro e1 w1 ⟨rfl, rd1, k1⟩; replace hS := hS.stepR rd1 k1; have c16 := hS.o.cell 16 rfl; have g16 := hS.o.free 16; replace KK := (KK.trans (Keeps.ofKept k1) (fun k _ h => h.elim .inl (fun h => absurd h (at_none k)))).setCell (x := ⟨B, 16, none⟩) (.inr rfl) (.int .i64 (M1 : Int)); replace hS := hS.set 16 (i64_nb (M1 : Int)); clear rd1 k1)
    | (go_at_call 57; (with_reducible refine (H7 _ hS.rd.rd).mono ?_); rintro e1 w1 ⟨rfl, rd1, k1⟩; replace hS := hS.stepR rd1 k1; have c17 := hS.o.cell 17 rfl; have g17 := hS.o.free 17; replace KK := (KK.trans (Keeps.ofKept k1) (fun k _ h => h.elim .inl (fun h => absurd h (at_none k)))).setCell (x := ⟨B, 17, none⟩) (.inr rfl) (.int .i64 (M2 : Int)); replace hS := hS.set 17 (i64_nb (M2 : Int)); clear rd1 k1))
  go_end0
  exact ⟨rfl, ⟨_, hS⟩, KK⟩
end Go.Proofs.YtkakcdojbgnocaaGreatDoor
