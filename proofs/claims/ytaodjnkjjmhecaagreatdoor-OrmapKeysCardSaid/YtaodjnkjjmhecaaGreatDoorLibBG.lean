/- Contracts and plain words that the laws' proofs stand on. -/
import Derived.Test.YtaodjnkjjmhecaaGreatDoorShort
import Derived.Test.YtaodjnkjjmhecaaGreatDoorMapIter
import Derived.Test.YtaodjnkjjmhecaaGreatDoorLibBF
namespace Go.Proofs.YtaodjnkjjmhecaaGreatDoor
open Go.RowKit
set_option linter.unusedVariables false
def overB (e : EventN) : Bool := decide (e.over.length ≤ 64) && (List.range e.over.length).all (okO e.over e.dot)
theorem right_split (e : EventN) : rightE e = (rightD e.dot && (rightT e.stamp && (e.stamp.dev == e.dot.dev && (overB e && kindE e)))) := by
  unfold rightE headE overB
  cases rightD e.dot <;> cases rightT e.stamp <;> cases (e.stamp.dev == e.dot.dev) <;> cases decide (e.over.length ≤ 64) <;> cases (List.range e.over.length).all (okO e.over e.dot) <;> rfl
def prevO (L : List DotN) (k : Nat) : DotN := if k = 0 then ⟨0, 0, 0⟩ else L.getD (k - 1) ⟨0, 0, 0⟩
theorem ok_is (L : List DotN) (d x y : DotN) (k : Nat) (hx : L.getD k ⟨0, 0, 0⟩ = x) (hy : y = prevO L k) :
    okO L d k = (rightD x && (lessD y x && !((x.dev == d.dev && x.inc == d.inc) && decide (d.seq ≤ x.seq)))) := by
  unfold okO prevO at *
  rw [hx]
  cases hr : rightD x with
  | false => rfl
  | true =>
    by_cases h : k = 0
    · rw [if_pos h] at hy
      subst h hy
      rw [zero_less hr]
      rfl
    · rw [if_neg h] at hy
      rw [← hy, beq_eq_false_iff_ne.2 h, Bool.false_or]
structure StO (w : World) (e : EventN) (a : Option Addr) (n c B : Nat) (y : DotN) (v : World) : Prop where
  o : ObjAt v w.heap.size [.int .i64 e.dot.dev, .int .i64 e.dot.inc, .int .i64 e.dot.seq, .int .i64 e.stamp.wall, .int .i64 e.stamp.count, .int .i64 e.stamp.dev, .int .i64 e.kind, .string (str e.item.name), .string (str e.item.dom), .string (str e.item.path), .string (str e.item.val), .bool e.item.host, .bool e.item.sec, .bool e.item.http, .bool e.item.pers, .int .i64 e.item.exp, .int .i64 e.item.made, .int .i64 e.item.used, .slice a n c]
  oy : ObjAt v B [.int .i64 y.dev, .int .i64 y.inc, .int .i64 y.seq]
  hB : w.heap.size < B
  hb : Below w.heap.size w v
theorem StO.below {w v v' : World} {e : EventN} {a : Option Addr} {n c B : Nat} {y : DotN} (h : StO w e a n c B y v) (hx : Below v.heap.size v v') : StO w e a n c B y v' :=
  ⟨h.o.below hx h.o.lt, h.oy.below hx h.oy.lt, h.hB, h.hb.trans (hx.mono h.hb.size)⟩
theorem StO.put {w v : World} {e : EventN} {a : Option Addr} {n c B : Nat} {y : DotN} (h : StO w e a n c B y v) (x : DotN) : StO w e a n c B x (((v.setCell ⟨B, 0, none⟩ (.int .i64 x.dev)).setCell ⟨B, 1, none⟩ (.int .i64 x.inc)).setCell ⟨B, 2, none⟩ (.int .i64 x.seq)) := by
  have hne : B ≠ w.heap.size := fun e => by have := h.hB; omega
  exact ⟨((h.o.other (p := ⟨B, 0, none⟩) hne _).other (p := ⟨B, 1, none⟩) hne _).other (p := ⟨B, 2, none⟩) hne _, ((h.oy.set 0 _).set 1 _).set 2 _, h.hB, ((h.hb.setCell (p := ⟨B, 0, none⟩) (Nat.le_of_lt h.hB) _).setCell (p := ⟨B, 1, none⟩) (Nat.le_of_lt h.hB) _).setCell (p := ⟨B, 2, none⟩) (Nat.le_of_lt h.hB) _⟩
set_option maxHeartbeats 4000000 in
set_option maxRecDepth 100000 in
theorem rightOverC (e : EventN) (a : Option Addr) (n c : Nat) (w : World) (h : RowOf encD 3 w a n c e.over) :
    Calls Tryz.prog 111 #[.agg #[.int .i64 e.dot.dev, .int .i64 e.dot.inc, .int .i64 e.dot.seq, .int .i64 e.stamp.wall, .int .i64 e.stamp.count, .int .i64 e.stamp.dev, .int .i64 e.kind, .string (str e.item.name), .string (str e.item.dom), .string (str e.item.path), .string (str e.item.val), .bool e.item.host, .bool e.item.sec, .bool e.item.http, .bool e.item.pers, .int .i64 e.item.exp, .int .i64 e.item.made, .int .i64 e.item.used, .slice a n c]] w fun en w' => en = .returned (.bool (overB e)) ∧ Below w.heap.size w w' := by
  have hb := below_alloc w (.cells #[.int .i64 e.dot.dev, .int .i64 e.dot.inc, .int .i64 e.dot.seq, .int .i64 e.stamp.wall, .int .i64 e.stamp.count, .int .i64 e.stamp.dev, .int .i64 e.kind, .string (str e.item.name), .string (str e.item.dom), .string (str e.item.path), .string (str e.item.val), .bool e.item.host, .bool e.item.sec, .bool e.item.http, .bool e.item.pers, .int .i64 e.item.exp, .int .i64 e.item.made, .int .i64 e.item.used, .slice a n c] 43)
  have o1 := ObjAt.new w #[.int .i64 e.dot.dev, .int .i64 e.dot.inc, .int .i64 e.dot.seq, .int .i64 e.stamp.wall, .int .i64 e.stamp.count, .int .i64 e.stamp.dev, .int .i64 e.kind, .string (str e.item.name), .string (str e.item.dom), .string (str e.item.path), .string (str e.item.val), .bool e.item.host, .bool e.item.sec, .bool e.item.http, .bool e.item.pers, .int .i64 e.item.exp, .int .i64 e.item.made, .int .i64 e.item.used, .slice a n c] 43
  have s1 : (w.alloc (.cells #[.int .i64 e.dot.dev, .int .i64 e.dot.inc, .int .i64 e.dot.seq, .int .i64 e.stamp.wall, .int .i64 e.stamp.count, .int .i64 e.stamp.dev, .int .i64 e.kind, .string (str e.item.name), .string (str e.item.dom), .string (str e.item.path), .string (str e.item.val), .bool e.item.host, .bool e.item.sec, .bool e.item.http, .bool e.item.pers, .int .i64 e.item.exp, .int .i64 e.item.made, .int .i64 e.item.used, .slice a n c] 43)).heap.size = w.heap.size + 1 := by simp
  generalize hv : w.alloc (.cells #[.int .i64 e.dot.dev, .int .i64 e.dot.inc, .int .i64 e.dot.seq, .int .i64 e.stamp.wall, .int .i64 e.stamp.count, .int .i64 e.stamp.dev, .int .i64 e.kind, .string (str e.item.name), .string (str e.item.dom), .string (str e.item.path), .string (str e.item.val), .bool e.item.host, .bool e.item.sec, .bool e.item.http, .bool e.item.pers, .int .i64 e.item.exp, .int .i64 e.item.made, .int .i64 e.item.used, .slice a n c] 43) = v at *
  have hn := h.leq
  have hcm := h.capm
  have hcl := h.cle
  unfold maxLen at hcm
  have c18 := o1.cell 18 rfl
  by_cases q4 : 64 < n
  · have q4b : (64 : Int) < (n : Int) := by omega
    have E : overB e = false := by unfold overB; rw [decide_eq_false (by omega)]; rfl
    rw [E]
    clear E h o1
    go_enter Tryz.func111, Tryz.ntmps111
    go_wp2
    go_ret
    exact ⟨rfl, hb⟩
  · have q4b : ¬ (64 : Int) < (n : Int) := by omega
    have E : Hid (overB e = (List.range n).all (okO e.over e.dot)) := by
      show _ = _
      unfold overB
      rw [hn, decide_eq_true (by omega : n ≤ 64), Bool.true_and]
    have b2 := below_alloc v (.cells #[.int .i64 0, .int .i64 0, .int .i64 0] 35)
    have oz := ObjAt.new v #[.int .i64 0, .int .i64 0, .int .i64 0] 35
    rw [s1] at oz
    have hS0 : Hid (StO w e a n c (w.heap.size + 1) ⟨0, 0, 0⟩ (v.alloc (.cells #[.int .i64 0, .int .i64 0, .int .i64 0] 35))) := ⟨o1.below b2 o1.lt, oz, by omega, hb.trans (b2.mono hb.size)⟩
    have HROW := Lib.hid h
    have c18 := hS0.out.o.cell 18 rfl
    clear h o1 hb b2 q4 oz
    go_enter Tryz.func111, Tryz.ntmps111
    go_wp2
    go_loopw [13] (fun i wr => ∃ (k : Nat) (y : DotN), k ≤ n ∧ i = .int .i64 (k : Int) ∧ Hid (∀ j, j < k → okO e.over e.dot j = true) ∧ Hid (y = prevO e.over k) ∧ StO w e a n c (w.heap.size + 1) y wr) (fun i _ => n - (intOf i).toNat)
    case atStart => exact ⟨0, ⟨0, 0, 0⟩, Nat.zero_le _, rfl, fun j hj => absurd hj (Nat.not_lt_zero _), rfl, hS0.out⟩
    case round =>
      clear hS0 c18
      obtain ⟨k, y, hk, rfl, hall, hy, hS⟩ := hrel
      have e0 := hS.o.cell 0 rfl; have e1 := hS.o.cell 1 rfl; have e2 := hS.o.cell 2 rfl; have e18 := hS.o.cell 18 rfl
      by_cases hlt : k < n
      · have hlt' : (k : Int) < (n : Int) := by omega
        obtain ⟨x, g, off, hxk, rfl, p0, p1, p2⟩ := dot_at (HROW.out.below hS.hb) k hlt
        have hok := Lib.hid (ok_is e.over e.dot x y k (by rw [List.getD_eq_getElem?_getD, hxk]; rfl) hy.out)
        have hpr : Hid (x = prevO e.over (k + 1)) := by
          show _ = _
          unfold prevO
          rw [if_neg (Nat.succ_ne_zero k), Nat.add_sub_cancel, List.getD_eq_getElem?_getD, hxk]
          rfl
        have hyes : Hid (okO e.over e.dot k = true → ∀ j, j < k + 1 → okO e.over e.dot j = true) := fun h j hj => by
          by_cases hjk : j = k
          · rw [hjk]; exact h
          · exact hall.out j (by omega)
        have hno : Hid (okO e.over e.dot k = false → (List.range n).all (okO e.over e.dot) = false) := fun h => by
          rw [List.all_eq_false]
          exact ⟨k, List.mem_range.2 hlt, by rw [h]; exact Bool.false_ne_true⟩
        have HRx := fun v => dotRightC0 x v
        have HLx := fun v => dotLessG y x v
        have HEA := fun v => eqActor x.dev x.inc e.dot.dev e.dot.inc v
        have b3 := below_alloc wr (.cells #[.int .i64 x.dev, .int .i64 x.inc, .int .i64 x.seq] 35)
        have ox := ObjAt.new wr #[.int .i64 x.dev, .int .i64 x.inc, .int .i64 x.seq] 35
        have hS := hS.below b3
        have hxlt := ox.lt
        have e0 := hS.o.cell 0 rfl; have e1 := hS.o.cell 1 rfl; have e2 := hS.o.cell 2 rfl
        have x0 := ox.cell 0 rfl; have x1 := ox.cell 1 rfl; have x2 := ox.cell 2 rfl
        have y0 := hS.oy.cell 0 rfl; have y1 := hS.oy.cell 1 rfl; have y2 := hS.oy.cell 2 rfl
        obtain ⟨r1, hr1⟩ : ∃ r, rightD x = r := ⟨_, rfl⟩
        obtain ⟨r2, hr2⟩ : ∃ r, lessD y x = r := ⟨_, rfl⟩
        obtain ⟨r3, hr3⟩ : ∃ r, (x.dev == e.dot.dev && x.inc == e.dot.inc) = r := ⟨_, rfl⟩
        obtain ⟨r4, hr4⟩ : ∃ r, decide (e.dot.seq ≤ x.seq) = r := ⟨_, rfl⟩
        rw [hr1] at HRx
        rw [hr2] at HLx
        rw [hr3] at HEA
        rw [hr1, hr2, hr3, hr4] at hok
        clear hr1 hr2 hr3 hxk hlt
        cases r1 with
        | false =>
          clear HLx HEA hr4
          go_wp2_with (first | (go_at_call 109; (with_reducible refine (HRx _).mono ?_); rintro e7 w7 ⟨rfl, hx⟩; have hS := hS.below hx; have ox := ox.below hx ox.lt; have e0 := hS.o.cell 0 rfl; have e1 := hS.o.cell 1 rfl; have e2 := hS.o.cell 2 rfl; have x0 := ox.cell 0 rfl; have x1 := ox.cell 1 rfl; have x2 := ox.cell 2 rfl; have y0 := hS.oy.cell 0 rfl; have y1 := hS.oy.cell 1 rfl; have y2 := hS.oy.cell 2 rfl; have f0 := hS.oy.free 0; have f1 := hS.oy.free 1; have f2 := hS.oy.free 2; clear hx) | (go_at_call 139; (with_reducible refine (HLx _).mono ?_); rintro e8 w8 ⟨rfl, hx⟩; have hS := hS.below hx; have ox := ox.below hx ox.lt; have e0 := hS.o.cell 0 rfl; have e1 := hS.o.cell 1 rfl; have e2 := hS.o.cell 2 rfl; have x0 := ox.cell 0 rfl; have x1 := ox.cell 1 rfl; have x2 := ox.cell 2 rfl; have y0 := hS.oy.cell 0 rfl; have y1 := hS.oy.cell 1 rfl; have y2 := hS.oy.cell 2 rfl; have f0 := hS.oy.free 0; have f1 := hS.oy.free 1; have f2 := hS.oy.free 2; clear hx))
          go_ret
          exact ⟨by rw [E.out, hno.out (by rw [hok.out]; rfl)]; rfl, hS.hb⟩
        | true =>
        cases r2 with
        | false =>
          clear HEA hr4
          go_wp2_with (first | (go_at_call 109; (with_reducible refine (HRx _).mono ?_); rintro e7 w7 ⟨rfl, hx⟩; have hS := hS.below hx; have ox := ox.below hx ox.lt; have e0 := hS.o.cell 0 rfl; have e1 := hS.o.cell 1 rfl; have e2 := hS.o.cell 2 rfl; have x0 := ox.cell 0 rfl; have x1 := ox.cell 1 rfl; have x2 := ox.cell 2 rfl; have y0 := hS.oy.cell 0 rfl; have y1 := hS.oy.cell 1 rfl; have y2 := hS.oy.cell 2 rfl; have f0 := hS.oy.free 0; have f1 := hS.oy.free 1; have f2 := hS.oy.free 2; clear hx) | (go_at_call 139; (with_reducible refine (HLx _).mono ?_); rintro e8 w8 ⟨rfl, hx⟩; have hS := hS.below hx; have ox := ox.below hx ox.lt; have e0 := hS.o.cell 0 rfl; have e1 := hS.o.cell 1 rfl; have e2 := hS.o.cell 2 rfl; have x0 := ox.cell 0 rfl; have x1 := ox.cell 1 rfl; have x2 := ox.cell 2 rfl; have y0 := hS.oy.cell 0 rfl; have y1 := hS.oy.cell 1 rfl; have y2 := hS.oy.cell 2 rfl; have f0 := hS.oy.free 0; have f1 := hS.oy.free 1; have f2 := hS.oy.free 2; clear hx))
          go_ret
          exact ⟨by rw [E.out, hno.out (by rw [hok.out]; rfl)]; rfl, hS.hb⟩
        | true =>
        cases r3 with
        | false =>
          clear hr4
          go_wp2_with (first | (go_at_call 109; (with_reducible refine (HRx _).mono ?_); rintro e7 w7 ⟨rfl, hx⟩; have hS := hS.below hx; have ox := ox.below hx ox.lt; have e0 := hS.o.cell 0 rfl; have e1 := hS.o.cell 1 rfl; have e2 := hS.o.cell 2 rfl; have x0 := ox.cell 0 rfl; have x1 := ox.cell 1 rfl; have x2 := ox.cell 2 rfl; have y0 := hS.oy.cell 0 rfl; have y1 := hS.oy.cell 1 rfl; have y2 := hS.oy.cell 2 rfl; have f0 := hS.oy.free 0; have f1 := hS.oy.free 1; have f2 := hS.oy.free 2; clear hx) | (go_at_call 139; (with_reducible refine (HLx _).mono ?_); rintro e8 w8 ⟨rfl, hx⟩; have hS := hS.below hx; have ox := ox.below hx ox.lt; have e0 := hS.o.cell 0 rfl; have e1 := hS.o.cell 1 rfl; have e2 := hS.o.cell 2 rfl; have x0 := ox.cell 0 rfl; have x1 := ox.cell 1 rfl; have x2 := ox.cell 2 rfl; have y0 := hS.oy.cell 0 rfl; have y1 := hS.oy.cell 1 rfl; have y2 := hS.oy.cell 2 rfl; have f0 := hS.oy.free 0; have f1 := hS.oy.free 1; have f2 := hS.oy.free 2; clear hx))
          go_roundw
          case rel => exact ⟨k + 1, x, by omega, by go_num, hyes.out (by rw [hok.out]; rfl), hpr, hS.put x⟩
          case measure => simp [intOf]; omega
        | true =>
        cases r4 with
        | true =>
          have hr4 := of_decide_eq_true hr4
          go_wp2_with (first | (go_at_call 109; (with_reducible refine (HRx _).mono ?_); rintro e7 w7 ⟨rfl, hx⟩; have hS := hS.below hx; have ox := ox.below hx ox.lt; have e0 := hS.o.cell 0 rfl; have e1 := hS.o.cell 1 rfl; have e2 := hS.o.cell 2 rfl; have x0 := ox.cell 0 rfl; have x1 := ox.cell 1 rfl; have x2 := ox.cell 2 rfl; have y0 := hS.oy.cell 0 rfl; have y1 := hS.oy.cell 1 rfl; have y2 := hS.oy.cell 2 rfl; have f0 := hS.oy.free 0; have f1 := hS.oy.free 1; have f2 := hS.oy.free 2; clear hx) | (go_at_call 139; (with_reducible refine (HLx _).mono ?_); rintro e8 w8 ⟨rfl, hx⟩; have hS := hS.below hx; have ox := ox.below hx ox.lt; have e0 := hS.o.cell 0 rfl; have e1 := hS.o.cell 1 rfl; have e2 := hS.o.cell 2 rfl; have x0 := ox.cell 0 rfl; have x1 := ox.cell 1 rfl; have x2 := ox.cell 2 rfl; have y0 := hS.oy.cell 0 rfl; have y1 := hS.oy.cell 1 rfl; have y2 := hS.oy.cell 2 rfl; have f0 := hS.oy.free 0; have f1 := hS.oy.free 1; have f2 := hS.oy.free 2; clear hx))
          go_ret
          exact ⟨by rw [E.out, hno.out (by rw [hok.out]; rfl)]; rfl, hS.hb⟩
        | false =>
          have hr4 := of_decide_eq_false hr4
          go_wp2_with (first | (go_at_call 109; (with_reducible refine (HRx _).mono ?_); rintro e7 w7 ⟨rfl, hx⟩; have hS := hS.below hx; have ox := ox.below hx ox.lt; have e0 := hS.o.cell 0 rfl; have e1 := hS.o.cell 1 rfl; have e2 := hS.o.cell 2 rfl; have x0 := ox.cell 0 rfl; have x1 := ox.cell 1 rfl; have x2 := ox.cell 2 rfl; have y0 := hS.oy.cell 0 rfl; have y1 := hS.oy.cell 1 rfl; have y2 := hS.oy.cell 2 rfl; have f0 := hS.oy.free 0; have f1 := hS.oy.free 1; have f2 := hS.oy.free 2; clear hx) | (go_at_call 139; (with_reducible refine (HLx _).mono ?_); rintro e8 w8 ⟨rfl, hx⟩; have hS := hS.below hx; have ox := ox.below hx ox.lt; have e0 := hS.o.cell 0 rfl; have e1 := hS.o.cell 1 rfl; have e2 := hS.o.cell 2 rfl; have x0 := ox.cell 0 rfl; have x1 := ox.cell 1 rfl; have x2 := ox.cell 2 rfl; have y0 := hS.oy.cell 0 rfl; have y1 := hS.oy.cell 1 rfl; have y2 := hS.oy.cell 2 rfl; have f0 := hS.oy.free 0; have f1 := hS.oy.free 1; have f2 := hS.oy.free 2; clear hx))
          go_roundw
          case rel => exact ⟨k + 1, x, by omega, by go_num, hyes.out (by rw [hok.out]; rfl), hpr, hS.put x⟩
          case measure => simp [intOf]; omega
      · obtain rfl : k = n := by omega
        have hfull : Hid ((List.range k).all (okO e.over e.dot) = true) := by
          show _ = _
          rw [List.all_eq_true]
          intro j hj
          exact hall.out j (List.mem_range.1 hj)
        have hbb := hS.hb
        clear hall hy hS
        go_wp2
        go_ret
        exact ⟨by rw [E.out, hfull.out]; rfl, hbb⟩
end Go.Proofs.YtaodjnkjjmhecaaGreatDoor
namespace Go.Proofs.YtaodjnkjjmhecaaGreatDoor
open Go.RowKit Go.Shelf
set_option linter.unusedVariables false
attribute [local go_sem] Oper.semAt_some
def encKey (k : KeyT) : List Value := [.string (str k.1), .string (str k.2.1), .string (str k.2.2)]
theorem encKey_len (k : KeyT) : (encKey k).length = 3 := rfl
theorem encKey_one (k : KeyT) : ∀ u ∈ encKey k, u.oneCell' = true := by
  have h : (encKey k).all (·.oneCell') = true := rfl
  exact fun u hu => List.all_eq_true.1 h u hu
theorem infoKey : (Tryz.prog.info? 39).map (fun i => (i.zero, i.size, i.bytes)) = some (some (.agg #[.string ⟨#[]⟩, .string ⟨#[]⟩, .string ⟨#[]⟩]), 3, 48) := by kernel_rfl
theorem own_user {α : Type} {enc : α → List Value} {z base : Nat} {e : TypeId} {a : Option Addr} {n c : Nat} {P : List α} {w : World} (h : OwnZ enc z base e a n c P w) : ∀ k, At a k → k < w.heap.size ∧ ∀ o, w.heap[k]? = some o → sysObj o = false := by
  intro k hk
  rcases h.1.2 with ⟨hv, _⟩ | ⟨g, cap, cur, hv, hb, hg, _⟩
  · cases hv
    exact absurd hk (at_none k)
  · cases hv
    have e1 : g = k := at_some.1 hk
    subst e1
    refine ⟨(Array.getElem?_eq_some_iff.1 hg).1, fun o ho => ?_⟩
    rw [hg] at ho
    cases ho
    rfl
theorem OwnZ.sys {α : Type} {enc : α → List Value} {z base B : Nat} {e : TypeId} {a : Option Addr} {n c : Nat} {P : List α} {w w' : World} (h : OwnZ enc z base e a n c P w) (hs : SysStep B w w') : OwnZ enc z base e a n c P w' :=
  h.keeps hs.keeps fun k hk ⟨_, o, ho, h1⟩ => by
    rw [(own_user h k hk).2 o ho] at h1
    cases h1
theorem ObjAt.sys {B : Nat} {w w' : World} {b : Nat} {vs : List Value} (h : ObjAt w b vs) (hs : SysStep B w w') : ObjAt w' b vs :=
  h.keeps hs.keeps fun ⟨_, o, ho, h1⟩ => by
    rw [h.user o ho] at h1
    cases h1
theorem Keeps.sys {F : Nat → Prop} {B : Nat} {w w1 w2 : World} (h : Keeps F w w1) (hs : SysStep B w1 w2) (hB : w.heap.size ≤ B) : Keeps F w w2 :=
  h.trans hs.keeps fun k hk ⟨h1, _⟩ => by omega
structure AppTo {α : Type} (enc : α → List Value) (z base : Nat) (e : TypeId) (a : Option Addr) (L : List α) (w : World) (q : Option Addr) (n c : Nat) (w' : World) : Prop where
  own : OwnZ enc z base e q n c L w'
  keeps : Keeps (At a) w w'
  near : q = a ∨ ∃ g, q = some ⟨g, 0, none⟩ ∧ w.heap.size ≤ g
set_option maxRecDepth 100000 in
set_option maxHeartbeats 4000000 in
theorem appSeqD (base : Nat) (a : Option Addr) (n c : Nat) (L : List DotN) (gf : Nat) (lb : Array Value) (G : Nat → Prop) (T S : List DF → Prop) (w : World) (hown : OwnZ encD 3 base 35 a n c L w) (hbase : base ≤ w.heap.size)
    (hit : ∀ m, 1 ≤ m → EachOf Fence.wide m Tryz.prog gf lb (fun x : DF => #[valDot x.1]) G T S w) (heg : ∀ args w, (callFunc gf args).run Tryz.prog w = .ok (.enter gf args) w) (hG : ∀ k, G k → k < w.heap.size ∧ ¬ At a k) (hT : ∀ xs, T xs → n + xs.length ≤ 1000000) :
    Calls Tryz.prog 89 #[.slice a n c, .func (.func gf) #[] lb] w fun e w' => ∃ xs q k c', S xs ∧ e = .returned (.slice q k c') ∧ AppTo encD 3 base 35 a (L ++ xs.map (·.1)) w q k c' w' := by
  obtain ⟨i0, hi, hz0, hz1, hz2⟩ := info_parts infoDot
  have oS := ObjAt.new w #[.slice a n c] 29
  have b0 := below_alloc w (.cells #[.slice a n c] 29)
  have hown0 := hown.below b0 (Nat.le_refl _)
  have hal : ∀ k, At a k → k < w.heap.size := fun k hk => (own_user hown k hk).1
  have hs0 : (w.alloc (.cells #[.slice a n c] 29)).heap.size = w.heap.size + 1 := by simp
  have hln := hown.2.1
  obtain ⟨w0, hw0⟩ : ∃ w0, w.alloc (.cells #[.slice a n c] 29) = w0 := ⟨_, rfl⟩
  refine (callsIn_wide (n := 9)).1 ?_
  refine callsIn_of_wp_marks Tryz.func89 rfl trivial ?_ rfl
  simp only [Tryz.ntmps89, List.size_toArray, List.length_cons, List.length_nil, Nat.reduceAdd, Nat.reduceSub, Array.replicate_succ, Array.replicate_zero, List.push_toArray, List.append_toArray, List.nil_append, List.cons_append]
  rw [hw0] at oS b0 hown0 hs0
  gi_wp2
  clear hown hw0
  refine wpIn_forEach (α := DF) rfl (by omega) (gf := gf) (lb := lb) rfl trivial heg (hit 8 (by omega)) b0 (fun _ => rfl)
    (fun pre W => ∃ q c', ObjAt W w.heap.size [.slice q (n + pre.length) c'] ∧ OwnZ encD 3 base 35 q (n + pre.length) c' (L ++ pre.map (·.1)) W ∧ Keeps (At a) w W ∧ (q = a ∨ ∃ g, q = some ⟨g, 0, none⟩ ∧ w.heap.size < g))
    ?hI ⟨a, c, oS, by simpa using hown0, (Keeps.new b0), .inl rfl⟩
    (fun x a' W => ∃ Bx, w.heap.size < Bx ∧ ObjAt W Bx (encD x.1) ∧ a' = { tmps := #[.slice a n c, .func (.func gf) #[] lb, .pointer (some ⟨w.heap.size, 0, none⟩), undef, .slice none 0 0, .pointer (some ⟨Bx, 0, none⟩), .func (.func gf) #[] lb, valDot x.1, undef, undef, undef, undef, undef], defers := [] })
    ?hAx ?hassign ?hbody ?hdone
  case hI =>
    rintro pre X Y hs ⟨q, c', h1, h2, h3, h4⟩
    exact ⟨q, c', h1.sys hs, h2.sys hs, h3.sys hs (by omega), h4⟩
  case hAx =>
    rintro x a' X Y hs ⟨Bx, h1, h2, h3⟩
    exact ⟨Bx, h1, h2.sys hs, h3⟩
  case hassign =>
    rintro l pre ⟨x, hx⟩ W hW hI
    dsimp only [valDot]
    gi_wp2
    obtain ⟨q, c', h1, h2, h3, h4⟩ := hI
    have hb := below_alloc W (.cells #[.int .i64 x.dev, .int .i64 x.inc, .int .i64 x.seq] 35)
    exact ⟨StaysG.ofBelow hb, ⟨q, c', h1.below hb h1.lt, h2.below hb (Nat.le_refl _), h3.trans (Keeps.new (F := At a) hb) (fun _ _ h => h), h4⟩, W.heap.size, by omega, ObjAt.new W #[.int .i64 x.dev, .int .i64 x.inc, .int .i64 x.seq] 35, rfl⟩
  case hbody =>
    rintro l pre ⟨x, hx⟩ a' W hTp ⟨q, c', h1, h2, h3, h4⟩ ⟨Bx, hBx, oX, rfl⟩
    dsimp only [valDot, encD] at *
    have hlen := hT _ hTp
    rw [List.length_append, List.length_singleton] at hlen
    have cS := h1.cell 0 rfl
    have y0 := oX.cell 0 rfl; have y1 := oX.cell 1 rfl; have y2 := oX.cell 2 rfl
    have hWs := h3.size
    have hqS : ¬ At q w.heap.size := by
      rcases h4 with rfl | ⟨g, rfl, hg⟩
      · exact fun hc => absurd (hal _ hc) (Nat.lt_irrefl _)
      · exact fun hc => absurd (at_some.1 hc) (Nat.ne_of_gt hg)
    gi_wp2_with (gi_at_builtin; refine wpListIn_by (letsAll_round l) rfl (by intro c h; cases h) fun K hK => ?_; refine wp_append_row1 (enc := encD) encD_len (by decide) encD_one (.tmp 8) (.tmp 10) 29 rfl 35 i0 (.agg #[.int .i64 0, .int .i64 0, .int .i64 0]) 24 Tryz.underlying29 hi hz0 hz1 hz2 rfl h2 rfl x rfl rfl (n + pre.length + 1) rfl (by unfold maxLen; omega) (by omega) (by omega) ?_; intro q7 c7 w7 hz7 hx7 hg7 hn7; refine hK _ _ ?_; have f7 := h1.keeps (Keeps.ofGrown hx7 hg7) hqS; have g7 := f7.cell 0 rfl; have z7 := f7.free 0)
    have k7 := Keeps.ofGrown hx7 hg7
    have f8 := f7.set 0 (.slice q7 (n + pre.length + 1) c7)
    have hq7 : q7 = a ∨ ∃ g, q7 = some ⟨g, 0, none⟩ ∧ w.heap.size < g := by
      rcases hn7 with rfl | ⟨g, rfl, hg⟩
      · exact h4
      · exact .inr ⟨g, rfl, by have := h1.lt; omega⟩
    have hq7S : ¬ At q7 w.heap.size := by
      rcases hq7 with rfl | ⟨g, rfl, hg⟩
      · exact fun hc => absurd (hal _ hc) (Nat.lt_irrefl _)
      · exact fun hc => absurd (at_some.1 hc) (Nat.ne_of_gt hg)
    have kw : Keeps (fun k => At q k ∨ k = w.heap.size) W (w7.setCell ⟨w.heap.size, 0, none⟩ (.slice q7 (n + pre.length + 1) c7)) := (k7.mono (fun k _ h => .inl h)).setCell (.inr rfl) _
    refine ⟨StaysG.ofKeeps kw (fun k o hk ho => ?_) (fun k hk hc => ?_), q7, c7, ?_, ?_, ?_, hq7⟩
    · rcases hk with hk | rfl
      · exact (own_user h2 k hk).2 o ho
      · exact h1.user o ho
    · obtain ⟨g1, g2⟩ := hG k hk
      rcases hc with hc | rfl
      · rcases h4 with rfl | ⟨g, rfl, hg⟩
        · exact g2 hc
        · have := at_some.1 hc
          dsimp only at this
          omega
      · omega
    · exact f8
    · simpa [Nat.add_assoc] using hz7.setCell (p := ⟨w.heap.size, 0, none⟩) (apart_iff.2 hq7S) (.slice q7 (n + pre.length + 1) c7)
    · refine h3.trans kw fun k hk hc => ?_
      rcases hc with hc | rfl
      · rcases h4 with rfl | ⟨g, rfl, hg⟩
        · exact hc
        · have := at_some.1 hc
          dsimp only at this
          omega
      · omega
  case hdone =>
    rintro D xs W hD hS ⟨q, c', h1, h2, h3, h4⟩ hK
    have cS := h1.cell 0 rfl
    gi_wp2
    refine ⟨by simp, .inl ⟨_, _, rfl, run_takeDeferred hK, ?_⟩⟩
    have hsp : SysStep w0.heap.size W (W.putObj D (.deferred none)) := SysStep.put hD hK rfl _
    refine ⟨_, results_tmp rfl _ _ _, xs, q, _, c', hS, rfl, h2.sys hsp, h3.sys hsp (by omega), h4.imp id fun ⟨g, e, hg⟩ => ⟨g, e, Nat.le_of_lt hg⟩⟩
set_option maxRecDepth 100000 in
theorem collectD (gf : Nat) (lb : Array Value) (G : Nat → Prop) (T S : List DF → Prop) (w : World) (hit : ∀ m, 1 ≤ m → EachOf Fence.wide m Tryz.prog gf lb (fun x : DF => #[valDot x.1]) G T S w) (heg : ∀ args w, (callFunc gf args).run Tryz.prog w = .ok (.enter gf args) w) (hG : ∀ k, G k → k < w.heap.size) (hT : ∀ xs, T xs → xs.length ≤ 1000000) :
    Calls Tryz.prog 84 #[.func (.func gf) #[] lb] w fun e w' => ∃ xs k, S xs ∧ GivesZ encD 3 35 (xs.map (·.1)) k w e w' := by
  have H := appSeqD w.heap.size none 0 0 [] gf lb G T S w (OwnZ.none _ _ _ _ _) (Nat.le_refl _) hit heg (fun k hk => ⟨hG k hk, at_none k⟩) (fun xs hx => by have := hT xs hx; omega)
  go_enter Tryz.func84, Tryz.ntmps84
  go_wp2_with (go_at_call 89; (with_reducible refine H.mono ?_); rintro e w1 ⟨xs, q, k, c', hS, rfl, hA⟩)
  go_ret
  exact ⟨xs, k, hS, q, c', rfl, hA.own, hA.keeps.below (Nat.le_refl _) (fun k _ h => absurd h (at_none k))⟩
set_option maxRecDepth 100000 in
set_option maxHeartbeats 4000000 in
theorem appSeqK (base : Nat) (a : Option Addr) (n c : Nat) (L : List KeyT) (gf : Nat) (lb : Array Value) (G : Nat → Prop) (T S : List KF → Prop) (w : World) (hown : OwnZ encKey 3 base 39 a n c L w) (hbase : base ≤ w.heap.size)
    (hit : ∀ m, 1 ≤ m → EachOf Fence.wide m Tryz.prog gf lb (fun x : KF => #[valKey x.1]) G T S w) (heg : ∀ args w, (callFunc gf args).run Tryz.prog w = .ok (.enter gf args) w) (hG : ∀ k, G k → k < w.heap.size ∧ ¬ At a k) (hT : ∀ xs, T xs → n + xs.length ≤ 1000000) :
    Calls Tryz.prog 129 #[.slice a n c, .func (.func gf) #[] lb] w fun e w' => ∃ xs q k c', S xs ∧ e = .returned (.slice q k c') ∧ AppTo encKey 3 base 39 a (L ++ xs.map (·.1)) w q k c' w' := by
  obtain ⟨i0, hi, hz0, hz1, hz2⟩ := info_parts infoKey
  have oS := ObjAt.new w #[.slice a n c] 134
  have b0 := below_alloc w (.cells #[.slice a n c] 134)
  have hown0 := hown.below b0 (Nat.le_refl _)
  have hal : ∀ k, At a k → k < w.heap.size := fun k hk => (own_user hown k hk).1
  have hs0 : (w.alloc (.cells #[.slice a n c] 134)).heap.size = w.heap.size + 1 := by simp
  have hln := hown.2.1
  obtain ⟨w0, hw0⟩ : ∃ w0, w.alloc (.cells #[.slice a n c] 134) = w0 := ⟨_, rfl⟩
  refine (callsIn_wide (n := 9)).1 ?_
  refine callsIn_of_wp_marks Tryz.func129 rfl trivial ?_ rfl
  simp only [Tryz.ntmps129, List.size_toArray, List.length_cons, List.length_nil, Nat.reduceAdd, Nat.reduceSub, Array.replicate_succ, Array.replicate_zero, List.push_toArray, List.append_toArray, List.nil_append, List.cons_append]
  rw [hw0] at oS b0 hown0 hs0
  gi_wp2
  clear hown hw0
  refine wpIn_forEach (α := KF) rfl (by omega) (gf := gf) (lb := lb) rfl trivial heg (hit 8 (by omega)) b0 (fun _ => rfl)
    (fun pre W => ∃ q c', ObjAt W w.heap.size [.slice q (n + pre.length) c'] ∧ OwnZ encKey 3 base 39 q (n + pre.length) c' (L ++ pre.map (·.1)) W ∧ Keeps (At a) w W ∧ (q = a ∨ ∃ g, q = some ⟨g, 0, none⟩ ∧ w.heap.size < g))
    ?hI ⟨a, c, oS, by simpa using hown0, (Keeps.new b0), .inl rfl⟩
    (fun x a' W => ∃ Bx, w.heap.size < Bx ∧ ObjAt W Bx (encKey x.1) ∧ a' = { tmps := #[.slice a n c, .func (.func gf) #[] lb, .pointer (some ⟨w.heap.size, 0, none⟩), undef, .slice none 0 0, .pointer (some ⟨Bx, 0, none⟩), .func (.func gf) #[] lb, valKey x.1, undef, undef, undef, undef, undef], defers := [] })
    ?hAx ?hassign ?hbody ?hdone
  case hI =>
    rintro pre X Y hs ⟨q, c', h1, h2, h3, h4⟩
    exact ⟨q, c', h1.sys hs, h2.sys hs, h3.sys hs (by omega), h4⟩
  case hAx =>
    rintro x a' X Y hs ⟨Bx, h1, h2, h3⟩
    exact ⟨Bx, h1, h2.sys hs, h3⟩
  case hassign =>
    rintro l pre ⟨x, hx⟩ W hW hI
    dsimp only [valKey]
    gi_wp2
    obtain ⟨q, c', h1, h2, h3, h4⟩ := hI
    have hb := below_alloc W (.cells #[.string (str x.1), .string (str x.2.1), .string (str x.2.2)] 39)
    exact ⟨StaysG.ofBelow hb, ⟨q, c', h1.below hb h1.lt, h2.below hb (Nat.le_refl _), h3.trans (Keeps.new (F := At a) hb) (fun _ _ h => h), h4⟩, W.heap.size, by omega, ObjAt.new W #[.string (str x.1), .string (str x.2.1), .string (str x.2.2)] 39, rfl⟩
  case hbody =>
    rintro l pre ⟨x, hx⟩ a' W hTp ⟨q, c', h1, h2, h3, h4⟩ ⟨Bx, hBx, oX, rfl⟩
    dsimp only [valKey, encKey] at *
    have hlen := hT _ hTp
    rw [List.length_append, List.length_singleton] at hlen
    have cS := h1.cell 0 rfl
    have y0 := oX.cell 0 rfl; have y1 := oX.cell 1 rfl; have y2 := oX.cell 2 rfl
    have hWs := h3.size
    have hqS : ¬ At q w.heap.size := by
      rcases h4 with rfl | ⟨g, rfl, hg⟩
      · exact fun hc => absurd (hal _ hc) (Nat.lt_irrefl _)
      · exact fun hc => absurd (at_some.1 hc) (Nat.ne_of_gt hg)
    gi_wp2_with (gi_at_builtin; refine wpListIn_by (letsAll_round l) rfl (by intro c h; cases h) fun K hK => ?_; refine wp_append_row1 (enc := encKey) encKey_len (by decide) encKey_one (.tmp 8) (.tmp 10) 134 rfl 39 i0 (.agg #[.string ⟨#[]⟩, .string ⟨#[]⟩, .string ⟨#[]⟩]) 48 Tryz.underlying134 hi hz0 hz1 hz2 rfl h2 rfl x rfl rfl (n + pre.length + 1) rfl (by unfold maxLen; omega) (by omega) (by omega) ?_; intro q7 c7 w7 hz7 hx7 hg7 hn7; refine hK _ _ ?_; have f7 := h1.keeps (Keeps.ofGrown hx7 hg7) hqS; have g7 := f7.cell 0 rfl; have z7 := f7.free 0)
    have k7 := Keeps.ofGrown hx7 hg7
    have f8 := f7.set 0 (.slice q7 (n + pre.length + 1) c7)
    have hq7 : q7 = a ∨ ∃ g, q7 = some ⟨g, 0, none⟩ ∧ w.heap.size < g := by
      rcases hn7 with rfl | ⟨g, rfl, hg⟩
      · exact h4
      · exact .inr ⟨g, rfl, by have := h1.lt; omega⟩
    have hq7S : ¬ At q7 w.heap.size := by
      rcases hq7 with rfl | ⟨g, rfl, hg⟩
      · exact fun hc => absurd (hal _ hc) (Nat.lt_irrefl _)
      · exact fun hc => absurd (at_some.1 hc) (Nat.ne_of_gt hg)
    have kw : Keeps (fun k => At q k ∨ k = w.heap.size) W (w7.setCell ⟨w.heap.size, 0, none⟩ (.slice q7 (n + pre.length + 1) c7)) := (k7.mono (fun k _ h => .inl h)).setCell (.inr rfl) _
    refine ⟨StaysG.ofKeeps kw (fun k o hk ho => ?_) (fun k hk hc => ?_), q7, c7, ?_, ?_, ?_, hq7⟩
    · rcases hk with hk | rfl
      · exact (own_user h2 k hk).2 o ho
      · exact h1.user o ho
    · obtain ⟨g1, g2⟩ := hG k hk
      rcases hc with hc | rfl
      · rcases h4 with rfl | ⟨g, rfl, hg⟩
        · exact g2 hc
        · have := at_some.1 hc
          dsimp only at this
          omega
      · omega
    · exact f8
    · simpa [Nat.add_assoc] using hz7.setCell (p := ⟨w.heap.size, 0, none⟩) (apart_iff.2 hq7S) (.slice q7 (n + pre.length + 1) c7)
    · refine h3.trans kw fun k hk hc => ?_
      rcases hc with hc | rfl
      · rcases h4 with rfl | ⟨g, rfl, hg⟩
        · exact hc
        · have := at_some.1 hc
          dsimp only at this
          omega
      · omega
  case hdone =>
    rintro D xs W hD hS ⟨q, c', h1, h2, h3, h4⟩ hK
    have cS := h1.cell 0 rfl
    gi_wp2
    refine ⟨by simp, .inl ⟨_, _, rfl, run_takeDeferred hK, ?_⟩⟩
    have hsp : SysStep w0.heap.size W (W.putObj D (.deferred none)) := SysStep.put hD hK rfl _
    refine ⟨_, results_tmp rfl _ _ _, xs, q, _, c', hS, rfl, h2.sys hsp, h3.sys hsp (by omega), h4.imp id fun ⟨g, e, hg⟩ => ⟨g, e, Nat.le_of_lt hg⟩⟩
set_option maxRecDepth 100000 in
theorem collectK (gf : Nat) (lb : Array Value) (G : Nat → Prop) (T S : List KF → Prop) (w : World) (hit : ∀ m, 1 ≤ m → EachOf Fence.wide m Tryz.prog gf lb (fun x : KF => #[valKey x.1]) G T S w) (heg : ∀ args w, (callFunc gf args).run Tryz.prog w = .ok (.enter gf args) w) (hG : ∀ k, G k → k < w.heap.size) (hT : ∀ xs, T xs → xs.length ≤ 1000000) :
    Calls Tryz.prog 90 #[.func (.func gf) #[] lb] w fun e w' => ∃ xs k, S xs ∧ GivesZ encKey 3 39 (xs.map (·.1)) k w e w' := by
  have H := appSeqK w.heap.size none 0 0 [] gf lb G T S w (OwnZ.none _ _ _ _ _) (Nat.le_refl _) hit heg (fun k hk => ⟨hG k hk, at_none k⟩) (fun xs hx => by have := hT xs hx; omega)
  go_enter Tryz.func90, Tryz.ntmps90
  go_wp2_with (go_at_call 129; (with_reducible refine H.mono ?_); rintro e w1 ⟨xs, q, k, c', hS, rfl, hA⟩)
  go_ret
  exact ⟨xs, k, hS, q, c', rfl, hA.own, hA.keeps.below (Nat.le_refl _) (fun k _ h => absurd h (at_none k))⟩
end Go.Proofs.YtaodjnkjjmhecaaGreatDoor
namespace Go.Proofs.YtaodjnkjjmhecaaGreatDoor
open Go.RowKit
set_option linter.unusedVariables false
set_option linter.unusedSimpArgs false
def GivesN (L : List EventN) (w : World) (en : Ending) (w' : World) : Prop :=
  ∃ a n c P, en = .returned (.slice a n c) ∧ P.map (·.e) = L ∧ OwnZ encE 19 w.heap.size 43 a n c P w' ∧ OversAt w' P ∧ (∀ r ∈ P, ∀ k, At (overA r) k → w.heap.size ≤ k) ∧ Below w.heap.size w w'
theorem nodup_most1 {α : Type} : ∀ {l m : List α}, l.Nodup → (∀ x ∈ l, x ∈ m) → l.length ≤ m.length := by
  classical
  exact fun {l m} h hs => by
    letI : BEq α := instBEqOfDecidableEq
    exact nodup_most h hs
theorem sort_len0 (l : List DotN) : (sortD l).length ≤ l.length := nodup_most1 (sortedD_nodup (sortD_sorted l)) fun x hx => (sortD_mem l x).1 hx
theorem gather_is {rs : List EvR} (hs : SortedE (rs.map (·.e))) : ∀ {K : List EventN}, (∀ e ∈ K, e ∈ rs.map (·.e)) → (K.map (·.dot)).filterMap (fun d => (lookR rs d).map (·.e)) = K
  | [], _ => rfl
  | e :: t, h => by
    obtain ⟨r, hr, he⟩ := List.mem_map.1 (h e List.mem_cons_self)
    have h1 := lookR_mem hs hr
    rw [List.map_cons, List.filterMap_cons, show e.dot = r.e.dot from by rw [← he], h1, gather_is hs fun x hx => h x (List.mem_cons_of_mem _ hx)]
    show r.e :: t = e :: t
    rw [show r.e = e from he]
set_option maxRecDepth 100000 in
set_option maxHeartbeats 4000000 in
theorem gatherI {w : World} {p : Nat} {B : Slots} {rs : List EvR} {m : MapN} (h : Real w p B rs m) (a : Option Addr) (n c : Nat) (L : List DotN) (hL : RowOf encD 3 w a n c L) (hF : ∀ x ∈ L, FitD x) (hin : ∀ x ∈ L, ∃ r ∈ rs, r.e.dot = x) (hn : n ≤ 100000) :
    Calls Tryz.prog 83 #[.pointer (some ⟨p, 0, none⟩), .slice a n c] w (GivesN ((sortD L).filterMap fun d => (lookR rs d).map (·.e)) w) := by
  obtain ⟨i0, hi, hz0, hz1, hz2⟩ := info_parts infoEvent
  have HS := dotSortC0 a n c L w hL hF hn
  have hlen : (sortD L).length ≤ n := by
    have := sort_len0 L
    have := hL.leq
    omega
  have hin2 : ∀ x ∈ sortD L, FitD x ∧ ∃ r ∈ rs, r.e.dot = x := fun x hx => ⟨hF x ((sortD_mem L x).1 hx), hin x ((sortD_mem L x).1 hx)⟩
  have hown := h.own_lt
  have hovl := h.over_lt
  generalize sortD L = Q at *
  clear hL hF hin
  go_enter Tryz.func83, Tryz.ntmps83
  go_wp2_with (go_at_call 95; (with_reducible refine HS.mono ?_); rintro e w1 ⟨a1, c1, rfl, hz1', hx1⟩)
  have hh1 := h.below hx1
  have hq1 := hz1'.2.1
  have hq2 := hz1'.2.2.1
  have hq3 := hz1'.2.2.2
  unfold maxLen at hq3
  generalize hQn : Q.length = n1 at *
  go_loopw [5, 11] (fun s i wr => ∃ (k c0 : Nat) (a0 : Option Addr) (P : List EvR), k ≤ n1 ∧ i = .int .i64 (k : Int) ∧ s = .slice a0 k c0 ∧ OwnZ encE 19 w.heap.size 43 a0 k c0 P wr ∧ OversAt wr P ∧ Hid (P.map (·.e) = (Q.take k).filterMap fun d => (lookR rs d).map (·.e)) ∧ (∀ r ∈ P, ∀ j, At (overA r) j → w.heap.size ≤ j ∧ ¬ At a0 j) ∧ Below w.heap.size w wr ∧ OwnZ encD 3 w.heap.size 35 a1 n1 c1 Q wr ∧ ∀ j, At a0 j → ¬ At a1 j) (fun _ i _ => n1 - (intOf i).toNat)
  case atStart => exact ⟨0, 0, none, [], Nat.zero_le _, rfl, rfl, OwnZ.none _ _ _ _ _, OversAt.nil _, rfl, fun r hr => absurd hr List.not_mem_nil, hx1, hz1', fun j hj => absurd hj (at_none j)⟩
  case round =>
    clear hz1' hx1 hh1 HS
    obtain ⟨k, c0, a0, P, hk, rfl, rfl, hz, hov, hPe, hno, hb, hzd, hoff⟩ := hrel
    by_cases hlt : k < n1
    · have hlt' : (k : Int) < (n1 : Int) := by omega
      obtain ⟨x, g, off, hxk, rfl, u0, u1, u2⟩ := dot_at (hzd.row encD_len) k hlt
      obtain ⟨hxf, r, hr, hrd⟩ := hin2 x (List.mem_of_getElem? hxk)
      have hlk : lookR rs x = some r := hrd ▸ lookR_mem h.sorted hr
      have hl : lightE r.e = true := h.light r.e (h.rs ▸ List.mem_map.2 ⟨r, hr, rfl⟩)
      have hRw := h.below hb
      obtain ⟨A, hA⟩ : ∃ A, (encE r).toArray = A := ⟨_, rfl⟩
      have hLK : ∀ w', KeptIs w' (B .kept) rs → (Instr.lookup 102 (.map (B .kept)) (.agg #[.int .i64 x.dev, .int .i64 x.inc, .int .i64 x.seq]) false).run Tryz.prog w' = .ok (.agg A) w' := fun w' hk' => by
        have := (kept_look hk' hxf).1
        rw [hlk] at this
        rw [← hA]
        exact this
      have hau := own_user hz
      have hah : ∀ j, At a0 j → w.heap.size ≤ j := fun j hj => by
        rcases hz.head with ⟨e, -⟩ | ⟨g, e, hg, -⟩
        · rw [e] at hj
          exact absurd hj (at_none j)
        · rw [e] at hj
          have := at_some.1 hj
          dsimp only at this
          omega
      obtain ⟨bd, hbd⟩ : ∃ bd, wr.heap.size = bd := ⟨_, rfl⟩
      have od := ObjAt.new wr #[.int .i64 x.dev, .int .i64 x.inc, .int .i64 x.seq] 35
      have bw := below_alloc wr (.cells #[.int .i64 x.dev, .int .i64 x.inc, .int .i64 x.seq] 35)
      rw [hbd] at od
      have hRd := hRw.below bw
      have hz' := hz.below bw (Nat.le_refl _)
      have hov' := hov.below bw
      have hzd' := hzd.below bw (Nat.le_refl _)
      have hbw := hb.trans (bw.mono hb.size)
      have hws := hb.size
      have hap : ∀ j, OwnB p B j → ¬ At a0 j := fun j hj hc => by have := hown j hj; have := hah j hc; omega
      have hao : ∀ j, OverB rs j → ¬ At a0 j := fun j hj hc => by have := hovl j hj; have := hah j hc; omega
      have had : ¬ At a0 bd := fun hc => by have := (hau bd hc).1; omega
      have hstep : (Q.take (k + 1)).filterMap (fun d => (lookR rs d).map (·.e)) = (Q.take k).filterMap (fun d => (lookR rs d).map (·.e)) ++ [r.e] := by
        rw [take_snocI hxk, List.filterMap_append]
        simp [hlk]
      have HST := Lib.hid hstep
      have hzr := own_user hzd
      clear hstep hz hov hzd hb hRw hlk hrd
      generalize hwd : wr.alloc (.cells #[.int .i64 x.dev, .int .i64 x.inc, .int .i64 x.seq] 35) = wd at *
      have hz := hz'
      have ld := od.lt
      have HC := fun v (hv : Below wd.heap.size wd v) => cloneR r A hA v ((hRd.over r hr).below hv) hl
      have hSd : ∀ v, Below wd.heap.size wd v → v.cell? ⟨p, 1, none⟩ = some (.map (B .kept)) ∧ v.cell? ⟨bd, 0, none⟩ = some (.int .i64 x.dev) ∧ v.cell? ⟨bd, 1, none⟩ = some (.int .i64 x.inc) ∧ v.cell? ⟨bd, 2, none⟩ = some (.int .i64 x.seq) ∧ KeptIs v (B .kept) rs := fun v hv => ⟨(hRd.below hv).obj.cell 1 rfl, (od.below hv ld).cell 0 rfl, (od.below hv ld).cell 1 rfl, (od.below hv ld).cell 2 rfl, (hRd.below hv).kept⟩
      have hb5 : Below wd.heap.size wd wd.drew := (Below.refl _ _).drew
      go_wp2_with fail
      refine wp_region_held_drew (S := fun w' => w'.cell? ⟨p, 1, none⟩ = some (.map (B .kept)) ∧ w'.cell? ⟨bd, 0, none⟩ = some (.int .i64 x.dev) ∧ w'.cell? ⟨bd, 1, none⟩ = some (.int .i64 x.inc) ∧ w'.cell? ⟨bd, 2, none⟩ = some (.int .i64 x.seq) ∧ KeptIs w' (B .kept) rs) (by kernel_rfl) (hSd _ hb5) (fun hHeld => ?_)
      first | (refine tR (i := 0) rfl rfl ?_) | (refine tL (i := 0) (v := ?vb1) rfl ?hyb1 ?rb1; case hyb1 => (rintro w' hS; obtain ⟨hs0, hs1, hs2, hs3, hs4⟩ := hS; go_simp; try with_reducible rfl))
      try simp only [gA, gB, Act.put, gD, gE, gF]
      first | (refine tR (i := 1) rfl rfl ?_) | (refine tL (i := 1) (v := ?vb2) rfl ?hyb2 ?rb2; case hyb2 => (rintro w' hS; obtain ⟨hs0, hs1, hs2, hs3, hs4⟩ := hS; go_simp; try with_reducible rfl))
      try simp only [gA, gB, gC, Act.put, gD, gE, gF]
      first | (refine tR (i := 2) rfl rfl ?_) | (refine tL (i := 2) (v := ?vb3) rfl ?hyb3 ?rb3; case hyb3 => (rintro w' hS; obtain ⟨hs0, hs1, hs2, hs3, hs4⟩ := hS; go_simp; try with_reducible rfl))
      try simp only [gA, gB, gC, Act.put, gD, gE, gF]
      first | (refine tR (i := 3) rfl rfl ?_) | (refine tL (i := 3) (v := ?vb4) rfl ?hyb4 ?rb4; case hyb4 => (rintro w' hS; obtain ⟨hs0, hs1, hs2, hs3, hs4⟩ := hS; go_simp; try with_reducible rfl))
      try simp only [gA, gB, gC, Act.put, gD, gE, gF]
      first | (refine tR (i := 4) rfl rfl ?_) | (refine tL (i := 4) (v := ?vb5) rfl ?hyb5 ?rb5; case hyb5 => (rintro w' hS; obtain ⟨hs0, hs1, hs2, hs3, hs4⟩ := hS; go_simp; try with_reducible rfl))
      try simp only [gA, gB, gC, Act.put, gD, gE, gF]
      first | (refine tR (i := 5) rfl rfl ?_) | (refine tL (i := 5) (v := ?vb6) rfl ?hyb6 ?rb6; case hyb6 => (rintro w' hS; obtain ⟨hs0, hs1, hs2, hs3, hs4⟩ := hS; go_simp; try with_reducible rfl))
      try simp only [gA, gB, gC, Act.put, gD, gE, gF]
      refine wpAnyH_take (i := 6) (v := .agg A) rfl (by kernel_rfl) (by kernel_rfl) (by kernel_rfl) (fun _ _ _ h => h) (Or.inl ⟨by rfl, fun w' hS => by obtain ⟨hs0, hs1, hs2, hs3, hs4⟩ := hS; exact exec_look (.tmp 19) (.tmp 20) 102 false rfl _ rfl _ rfl (hLK w' hs4)⟩) (by assumption) ?_
      try simp only [gA, gB, gC, Act.put, gD, gE, gF]
      refine wpAnyH_ready (rs := [7]) (by kernel_rfl) (by simp) ?_
      refine AllReadyH.cons (o := _) rfl (fun K hK => ?_) AllReadyH.nil
      go_simp
      go_at_call 116; (with_reducible refine (HC _ hb5).mono ?_); rintro e w6 ⟨q, hqe, rfl, hqo, hqn, hx6⟩; have hb6 := hb5.trans (hx6.mono hb5.size); obtain ⟨A2, hA2⟩ : ∃ A2, (encE q).toArray = A2 := ⟨_, rfl⟩; rw [hA2]; have zA2 : A2.size = 19 := (by rw [← hA2]; rfl); have lA2 : A2.toList = encE q := (by rw [← hA2]); have hfold : Array.foldl (fun cs x => cs.setIfInBounds x.snd x.fst) (#[.int .i64 0, .int .i64 0, .int .i64 0, .int .i64 0, .int .i64 0, .int .i64 0, .int .i64 0, .string ⟨#[]⟩, .string ⟨#[]⟩, .string ⟨#[]⟩, .string ⟨#[]⟩, .bool false, .bool false, .bool false, .bool false, .int .i64 0, .int .i64 0, .int .i64 0, .slice none 0 0] : Array Value) A2.zipIdx 0 19 = A2 := foldSet A2 _ 19 zA2 rfl; have hz6 := hz.below hb6 (Nat.le_refl _); have ha6 := below_alloc w6 (.cells A2 43); have hb7 := hb6.trans (ha6.mono hb6.size)
      try dsimp only
      refine hK.out _ _ (hSd _ hb6) (fun hHeld => ?_)
      clear hK K
      try simp only [gA, gB, gC, Act.put, gD, gE, gF]
      refine wpAnyH_ready (rs := [8]) (by kernel_rfl) (by simp) ?_
      refine AllReadyH.cons (o := _) rfl (fun K hK => ?_) AllReadyH.nil
      go_simp
      skip
      try dsimp only
      refine hK.out _ _ (hSd _ hb7) (fun hHeld => ?_)
      clear hK K
      try simp only [gA, gB, gC, Act.put, gD, gE, gF]
      refine wpAnyH_ready (rs := [9]) (by kernel_rfl) (by simp) ?_
      refine AllReadyH.cons (o := _) rfl (fun K hK => ?_) AllReadyH.nil
      refine step_append_row1 encE_len (by decide) encE_one (by rfl) (.tmp 15) (.tmp 23) 28 (by rfl) 43 i0 (.agg #[.int .i64 0, .int .i64 0, .int .i64 0, .int .i64 0, .int .i64 0, .int .i64 0, .int .i64 0, .string ⟨#[]⟩, .string ⟨#[]⟩, .string ⟨#[]⟩, .string ⟨#[]⟩, .bool false, .bool false, .bool false, .bool false, .int .i64 0, .int .i64 0, .int .i64 0, .slice none 0 0]) 176 Tryz.underlying28 hi hz0 hz1 hz2 rfl hz6 rfl q lA2 rfl (k + 1) rfl (by unfold maxLen; omega) (by omega) (by have := hb6.size; omega) ?_; intro a8 c8 w8 hz8 hx8 hg8 hn8; have k8 := Keeps.ofGrown hx8 hg8; have o8 := (od.below hb6 ld).keeps k8 had; have r8 := (hRd.below hb6).keeps k8 (fun c => hap _ (.inl rfl) c) (fun i b e c => hap _ (.inr ⟨i, e⟩) c) (fun r hr k hk c => hao _ ⟨r, hr, hk⟩ c)
      try dsimp only
      refine hK.out _ _ (⟨r8.obj.cell 1 rfl, o8.cell 0 rfl, o8.cell 1 rfl, o8.cell 2 rfl, r8.kept⟩) (fun hHeld => ?_)
      clear hK K
      try simp only [gA, gB, gC, Act.put, gD, gE, gF]
      first | (refine tR (i := 10) rfl rfl ?_) | (refine tL (i := 10) (v := ?vb7) rfl ?hyb7 ?rb7; case hyb7 => (rintro w' hS; obtain ⟨hs0, hs1, hs2, hs3, hs4⟩ := hS; go_simp; try with_reducible rfl))
      try simp only [gA, gB, gC, Act.put, gD, gE, gF]
      refine wpAnyH_done (by kernel_rfl) ?_ _
      go_wp2
      go_roundw
      case rel =>
        have hb6s := hb6.size
        have hbf : Below w.heap.size w w8 := (hbw.trans (hb6.mono hbw.size)).trans hx8
        have hov6 : OversAt w6 P := hov'.below hb6
        have hqw : ∀ j, At (overA q) j → wd.heap.size ≤ j := fun j hj => hqn j (over_at hj)
        have hwds : bd < wd.heap.size := ld
        have hov8 : OversAt w8 (P ++ [q]) := by
          intro y hy
          rcases List.mem_append.1 hy with hy | hy
          · exact over_keeps (hov6 y hy) k8 fun j hj hc => (hno y hy j hj).2 hc
          · rw [List.mem_singleton.1 hy]
            exact over_keeps hqo k8 fun j hj hc => by have := hqw j hj; have := (hau j hc).1; omega
        have hall : ∀ y ∈ P ++ [q], ∀ j, At (overA y) j → w.heap.size ≤ j ∧ j < w6.heap.size ∧ ¬ At a0 j := by
          intro y hy j hj
          rcases List.mem_append.1 hy with hy | hy
          · exact ⟨(hno y hy j hj).1, overA_lt (hov6 y hy) j hj, (hno y hy j hj).2⟩
          · rw [List.mem_singleton.1 hy] at hj
            have h1 := hqw j hj
            exact ⟨by omega, overA_lt hqo j hj, fun hc => by have := (hau j hc).1; omega⟩
        refine ⟨k + 1, c8, a8, P ++ [q], by omega, by go_num, rfl, hz8, hov8, ?_, fun y hy j hj => ?_, hbf, (hzd'.below hb6 (Nat.le_refl _)).keeps k8 (fun j hj hc => hoff j hc hj), fun j hj => ?_⟩
        · unfold Hid
          rw [HST.out, List.map_append, hPe.out, ← hqe]
          rfl
        · obtain ⟨h1, h2, h3⟩ := hall y hy j hj
          refine ⟨h1, ?_⟩
          rcases hn8 with rfl | ⟨g8, rfl, hg9⟩
          · exact h3
          · intro hc
            have := at_some.1 hc
            dsimp only at this
            omega
        · rcases hn8 with rfl | ⟨g8, rfl, hg9⟩
          · exact hoff j hj
          · intro hc
            have := at_some.1 hj
            dsimp only at this
            have := (hzr j hc).1
            omega
      case measure => simp [intOf]; omega
    · obtain rfl : n1 = k := by omega
      go_wp2
      go_ret
      refine ⟨a0, n1, c0, P, rfl, ?_, hz, hov, fun r hr j hj => (hno r hr j hj).1, hb⟩
      rw [hPe.out, List.take_of_length_le (Nat.le_of_eq hQn)]
end Go.Proofs.YtaodjnkjjmhecaaGreatDoor
namespace Go.Proofs.YtaodjnkjjmhecaaGreatDoor
open Go.ChangeShapes Go.WideShapes Go.ChangeAt Go.RowKit
set_option linter.unusedVariables false
theorem rows_at {H : Type} {enc : TypeId × Value → H} {P : Program} {w : World} {held : Bool} {α : Type} [Inhabited α] (en : α → List Value) (ok : α → Prop) {t e : TypeId} (z n : Nat) (ks : List Leaf) {fuel : Nat} {v : Value} {x : DataW H × List MemPlace} (ht : P.underlying t = some (.slice e)) (hC : P.cellsOf e = z) (hp : 0 < z)
    (hk : flatK P n e = some ks) (hD : ∀ cs, leavesOk ks cs → ∃ x, cs = en x ∧ ok x) (hf : DataW.trod enc P w 0 (fun _ => true) held fuel t [v] = some x) :
    ∃ a len cap, ∃ Q : List α, v = .slice a len cap ∧ RowOf en z w a len cap Q ∧ ∀ x ∈ Q, ok x := by
  obtain ⟨a, len, cap, m, hcs, h1, h2, h3, hall⟩ := elems_of z ht hC hp hf
  cases hcs
  have hq : ∀ i, ∃ x : α, i < len → ok x ∧ ∃ g off, a = some ⟨g, off, none⟩ ∧ ∀ (j : Nat) (v : Value), (en x)[j]? = some v → w.cell? ⟨g, off + i * z + j, none⟩ = some v := fun i => by
    by_cases hi : i < len
    · obtain ⟨b, off, cs', y, ha, hl, hc, hy⟩ := hall i hi
      obtain ⟨x, rfl, hx⟩ := hD cs' (leaves_of n e ks m cs' y hk hy)
      exact ⟨x, fun _ => ⟨hx, b, off, ha, hc⟩⟩
    · exact ⟨default, fun h => absurd h hi⟩
  refine ⟨a, len, cap, (List.range len).map fun i => Classical.choose (hq i), rfl, ⟨by simp, h1, h2, h3, fun i x hx => ?_⟩, fun x hx => ?_⟩
  · have hi : i < len := by have := (List.getElem?_eq_some_iff.1 hx).1; simpa using this
    rw [List.getElem?_map, List.getElem?_range hi] at hx
    cases hx
    exact (Classical.choose_spec (hq i) hi).2
  · obtain ⟨i, hi, rfl⟩ := List.mem_map.1 hx
    exact (Classical.choose_spec (hq i) (List.mem_range.1 hi)).1
theorem parts19 : ∀ (cs : List Value), cs.length = 19 → cs = (cs.drop 0).take 3 ++ ((cs.drop 3).take 3 ++ ((cs.drop 6).take 1 ++ ((cs.drop 7).take 3 ++ ((cs.drop 10).take 8 ++ (cs.drop 18).take 1))))
  | [v0, v1, v2, v3, v4, v5, v6, v7, v8, v9, v10, v11, v12, v13, v14, v15, v16, v17, v18], _ => rfl
theorem leaves_stampE {l : List Value} (q0 : leavesOk [.num .i64, .num .i64, .num .i64] l) : ∃ x : StampN, l = [.int .i64 x.wall, .int .i64 x.count, .int .i64 x.dev] := by
  obtain ⟨v0, l0, e0, ⟨a, rfl, z0⟩, q1⟩ := leaves_cons q0
  obtain ⟨v1, l1, e1, ⟨b, rfl, z1⟩, q2⟩ := leaves_cons q1
  obtain ⟨v2, l2, e2, ⟨c, rfl, z2⟩, q3⟩ := leaves_cons q2
  have e3 := leaves_nil q3
  subst e3 e2 e1 e0
  exact ⟨⟨a, b, c⟩, rfl⟩
theorem leaves_keyE {l : List Value} (q0 : leavesOk [.text, .text, .text] l) : ∃ x y z : List UInt8, l = [.string (str x), .string (str y), .string (str z)] ∧ x.length ≤ maxLen ∧ y.length ≤ maxLen ∧ z.length ≤ maxLen := by
  obtain ⟨v0, l0, e0, ⟨a, rfl, z0⟩, q1⟩ := leaves_cons q0
  obtain ⟨v1, l1, e1, ⟨b, rfl, z1⟩, q2⟩ := leaves_cons q1
  obtain ⟨v2, l2, e2, ⟨c, rfl, z2⟩, q3⟩ := leaves_cons q2
  have e3 := leaves_nil q3
  subst e3 e2 e1 e0
  exact ⟨a, b, c, rfl, z0, z1, z2⟩
theorem leaves_cooE {l : List Value} (q0 : leavesOk [.text, .flag, .flag, .flag, .flag, .num .i64, .num .i64, .num .i64] l) : ∃ (x : List UInt8) (f1 f2 f3 f4 : Bool) (i1 i2 i3 : Int), l = [.string (str x), .bool f1, .bool f2, .bool f3, .bool f4, .int .i64 i1, .int .i64 i2, .int .i64 i3] ∧ x.length ≤ maxLen := by
  obtain ⟨v0, l0, e0, ⟨a0, rfl, z0⟩, q1⟩ := leaves_cons q0
  obtain ⟨v1, l1, e1, ⟨a1, rfl⟩, q2⟩ := leaves_cons q1
  obtain ⟨v2, l2, e2, ⟨a2, rfl⟩, q3⟩ := leaves_cons q2
  obtain ⟨v3, l3, e3, ⟨a3, rfl⟩, q4⟩ := leaves_cons q3
  obtain ⟨v4, l4, e4, ⟨a4, rfl⟩, q5⟩ := leaves_cons q4
  obtain ⟨v5, l5, e5, ⟨a5, rfl, z5⟩, q6⟩ := leaves_cons q5
  obtain ⟨v6, l6, e6, ⟨a6, rfl, z6⟩, q7⟩ := leaves_cons q6
  obtain ⟨v7, l7, e7, ⟨a7, rfl, z7⟩, q8⟩ := leaves_cons q7
  have e8 := leaves_nil q8
  subst e8 e7 e6 e5 e4 e3 e2 e1 e0
  exact ⟨a0, a1, a2, a3, a4, a5, a6, a7, rfl, z0⟩
set_option maxRecDepth 100000 in
theorem event_of {H : Type} {enc : TypeId × Value → H} {w : World} {fuel : Nat} {cs : List Value} {x : DataW H × List MemPlace} (h : DataW.trod enc Tryz.prog w 0 (fun _ => true) true fuel 43 cs = some x) :
    ∃ (e : EventN) (a : Option Addr) (n c : Nat), cs = [.int .i64 e.dot.dev, .int .i64 e.dot.inc, .int .i64 e.dot.seq, .int .i64 e.stamp.wall, .int .i64 e.stamp.count, .int .i64 e.stamp.dev, .int .i64 e.kind, .string (str e.item.name), .string (str e.item.dom), .string (str e.item.path), .string (str e.item.val), .bool e.item.host, .bool e.item.sec, .bool e.item.http, .bool e.item.pers, .int .i64 e.item.exp, .int .i64 e.item.made, .int .i64 e.item.used, .slice a n c] ∧ RowOf encD 3 w a n c e.over ∧ FitD e.dot ∧ (∀ x ∈ e.over, FitD x) ∧ e.item.name.length ≤ maxLen ∧ e.item.dom.length ≤ maxLen ∧ e.item.path.length ≤ maxLen ∧ e.item.val.length ≤ maxLen := by
  obtain ⟨ys, n, -, -, hlen, hyl, hf⟩ := DataW.trod_struct Tryz.underlying43 h
  have hC : Tryz.prog.cellsOf 43 = 19 := by kernel_rfl
  have c0 : Tryz.prog.cellsOf 35 = 3 := by kernel_rfl
  have c1 : Tryz.prog.cellsOf 37 = 3 := by kernel_rfl
  have c2 : Tryz.prog.cellsOf 3 = 1 := by kernel_rfl
  have c3 : Tryz.prog.cellsOf 39 = 3 := by kernel_rfl
  have c4 : Tryz.prog.cellsOf 41 = 8 := by kernel_rfl
  have c5 : Tryz.prog.cellsOf 29 = 1 := by kernel_rfl
  rw [hC] at hlen
  have hp := parts19 cs hlen
  have g0 : DataW.trod enc Tryz.prog w 0 (fun _ => true) true n 35 ((cs.drop 0).take (Tryz.prog.cellsOf 35)) = ys[0]? := hf 0 _ rfl
  have g1 : DataW.trod enc Tryz.prog w 0 (fun _ => true) true n 37 ((cs.drop 3).take (Tryz.prog.cellsOf 37)) = ys[1]? := hf 1 _ rfl
  have g2 : DataW.trod enc Tryz.prog w 0 (fun _ => true) true n 3 ((cs.drop 6).take (Tryz.prog.cellsOf 3)) = ys[2]? := hf 2 _ rfl
  have g3 : DataW.trod enc Tryz.prog w 0 (fun _ => true) true n 39 ((cs.drop 7).take (Tryz.prog.cellsOf 39)) = ys[3]? := hf 3 _ rfl
  have g4 : DataW.trod enc Tryz.prog w 0 (fun _ => true) true n 41 ((cs.drop 10).take (Tryz.prog.cellsOf 41)) = ys[4]? := hf 4 _ rfl
  have g5 : DataW.trod enc Tryz.prog w 0 (fun _ => true) true n 29 ((cs.drop 18).take (Tryz.prog.cellsOf 29)) = ys[5]? := hf 5 _ rfl
  have hy : ys.length = 6 := hyl
  rw [List.getElem?_eq_getElem (by omega)] at g0 g1 g2 g3 g4 g5
  rw [c0] at g0
  rw [c1] at g1
  rw [c2] at g2
  rw [c3] at g3
  rw [c4] at g4
  rw [c5] at g5
  obtain ⟨d, e0, hd⟩ := leaves_dot (leaves_of 4 _ [.num .i64, .num .i64, .num .i64] _ _ _ (by kernel_rfl) g0)
  obtain ⟨s, e1⟩ := leaves_stampE (leaves_of 4 _ [.num .i64, .num .i64, .num .i64] _ _ _ (by kernel_rfl) g1)
  obtain ⟨t1, t2, t3, e3, z1, z2, z3⟩ := leaves_keyE (leaves_of 4 _ [.text, .text, .text] _ _ _ (by kernel_rfl) g3)
  obtain ⟨t4, f1, f2, f3, f4, i1, i2, i3, e4, z4⟩ := leaves_cooE (leaves_of 4 _ [.text, .flag, .flag, .flag, .flag, .num .i64, .num .i64, .num .i64] _ _ _ (by kernel_rfl) g4)
  obtain ⟨v2, e2⟩ : ∃ v, (cs.drop 6).take 1 = [v] := List.length_eq_one_iff.1 (by rw [List.length_take, List.length_drop]; omega)
  obtain ⟨v5, e5⟩ : ∃ v, (cs.drop 18).take 1 = [v] := List.length_eq_one_iff.1 (by rw [List.length_take, List.length_drop]; omega)
  rw [show (cs.drop 6).take 1 = [v2] from e2] at g2
  rw [show (cs.drop 18).take 1 = [v5] from e5] at g5
  obtain ⟨kd, ek, -, -⟩ := DataW.trod_int Tryz.underlying3 g2
  cases ek
  obtain ⟨a, len, cap, Q, rfl, hr, hfit⟩ := rows_at encD FitD 3 4 [.num .i64, .num .i64, .num .i64] Tryz.underlying29 (by kernel_rfl) (by decide) (by kernel_rfl) (fun cs h => leaves_dot h) g5
  refine ⟨⟨d, s, kd, ⟨t1, t2, t3, t4, f1, f2, f3, f4, i1, i2, i3⟩, Q⟩, a, len, cap, ?_, hr, hd, hfit, z1, z2, z3, z4⟩
  refine hp.trans ?_
  rw [e0, e1, e2, e3, e4, e5]
  rfl
end Go.Proofs.YtaodjnkjjmhecaaGreatDoor
