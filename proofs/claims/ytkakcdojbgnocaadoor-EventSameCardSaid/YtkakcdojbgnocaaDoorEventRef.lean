/- Contracts of the reference of layer 20: light events, the same ones. -/
import Derived.Test.YtkakcdojbgnocaaDoorLibAR
import Derived.Test.YtkakcdojbgnocaaDoorLibAH
namespace Go.Proofs.YtkakcdojbgnocaaDoor
open Go.RowKit
set_option linter.unusedVariables false

theorem objsE2 (w : World) (A B : Array Value) (a b : TypeId) : ObjAt ((w.alloc (.cells A a)).alloc (.cells B b)) w.heap.size A.toList ∧ ObjAt ((w.alloc (.cells A a)).alloc (.cells B b)) (w.heap.size + 1) B.toList ∧ Below w.heap.size w ((w.alloc (.cells A a)).alloc (.cells B b)) := by
  have h1 := below_alloc w (.cells A a)
  have h2 := below_alloc (w.alloc (.cells A a)) (.cells B b)
  have o1 := ObjAt.new w A a
  have o2 := ObjAt.new (w.alloc (.cells A a)) B b
  rw [World.size_alloc] at o2
  exact ⟨o1.below h2 o1.lt, o2, h1.trans (h2.mono h1.size)⟩

set_option maxHeartbeats 2000000 in
set_option maxRecDepth 100000 in
theorem refELightC (e : EventN) (a : Option Addr) (n c : Nat) (w : World) (hn : e.over.length = n) (h1 : e.item.name.length ≤ maxLen) (h2 : e.item.dom.length ≤ maxLen) (h3 : e.item.path.length ≤ maxLen) (h4 : e.item.val.length ≤ maxLen) :
    Calls Tryd.prog 4 #[.agg #[.int .i64 e.dot.dev, .int .i64 e.dot.inc, .int .i64 e.dot.seq, .int .i64 e.stamp.wall, .int .i64 e.stamp.count, .int .i64 e.stamp.dev, .int .i64 e.kind, .string (str e.item.name), .string (str e.item.dom), .string (str e.item.path), .string (str e.item.val), .bool e.item.host, .bool e.item.sec, .bool e.item.http, .bool e.item.pers, .int .i64 e.item.exp, .int .i64 e.item.made, .int .i64 e.item.used, .slice a n c]] w fun en w' => en = .returned (.bool (lightE e)) ∧ Below w.heap.size w w' := by
  have hb := below_alloc w (.cells #[.int .i64 e.dot.dev, .int .i64 e.dot.inc, .int .i64 e.dot.seq, .int .i64 e.stamp.wall, .int .i64 e.stamp.count, .int .i64 e.stamp.dev, .int .i64 e.kind, .string (str e.item.name), .string (str e.item.dom), .string (str e.item.path), .string (str e.item.val), .bool e.item.host, .bool e.item.sec, .bool e.item.http, .bool e.item.pers, .int .i64 e.item.exp, .int .i64 e.item.made, .int .i64 e.item.used, .slice a n c] 34)
  have o1 := ObjAt.new w #[.int .i64 e.dot.dev, .int .i64 e.dot.inc, .int .i64 e.dot.seq, .int .i64 e.stamp.wall, .int .i64 e.stamp.count, .int .i64 e.stamp.dev, .int .i64 e.kind, .string (str e.item.name), .string (str e.item.dom), .string (str e.item.path), .string (str e.item.val), .bool e.item.host, .bool e.item.sec, .bool e.item.http, .bool e.item.pers, .int .i64 e.item.exp, .int .i64 e.item.made, .int .i64 e.item.used, .slice a n c] 34
  generalize hv : w.alloc (.cells #[.int .i64 e.dot.dev, .int .i64 e.dot.inc, .int .i64 e.dot.seq, .int .i64 e.stamp.wall, .int .i64 e.stamp.count, .int .i64 e.stamp.dev, .int .i64 e.kind, .string (str e.item.name), .string (str e.item.dom), .string (str e.item.path), .string (str e.item.val), .bool e.item.host, .bool e.item.sec, .bool e.item.http, .bool e.item.pers, .int .i64 e.item.exp, .int .i64 e.item.made, .int .i64 e.item.used, .slice a n c] 34) = v at *
  have u0 := o1.cell 0 rfl; have u1 := o1.cell 1 rfl; have u2 := o1.cell 2 rfl; have u3 := o1.cell 3 rfl; have u4 := o1.cell 4 rfl; have u5 := o1.cell 5 rfl; have u6 := o1.cell 6 rfl; have u7 := o1.cell 7 rfl; have u8 := o1.cell 8 rfl; have u9 := o1.cell 9 rfl; have u10 := o1.cell 10 rfl; have u11 := o1.cell 11 rfl; have u12 := o1.cell 12 rfl; have u13 := o1.cell 13 rfl; have u14 := o1.cell 14 rfl; have u15 := o1.cell 15 rfl; have u16 := o1.cell 16 rfl; have u17 := o1.cell 17 rfl; have u18 := o1.cell 18 rfl
  unfold maxLen at *
  obtain ⟨m1, hm1⟩ : ∃ m, e.item.name.length = m := ⟨_, rfl⟩
  obtain ⟨m2, hm2⟩ : ∃ m, e.item.dom.length = m := ⟨_, rfl⟩
  obtain ⟨m3, hm3⟩ : ∃ m, e.item.path.length = m := ⟨_, rfl⟩
  obtain ⟨m4, hm4⟩ : ∃ m, e.item.val.length = m := ⟨_, rfl⟩
  have z1 : (str e.item.name).size = m1 := by rw [str_size, hm1]
  have z2 : (str e.item.dom).size = m2 := by rw [str_size, hm2]
  have z3 : (str e.item.path).size = m3 := by rw [str_size, hm3]
  have z4 : (str e.item.val).size = m4 := by rw [str_size, hm4]
  have hsh : Hid (lightE e = (decide (n ≤ 100) && (decide (m1 ≤ 2000) && (decide (m2 ≤ 2000) && (decide (m3 ≤ 2000) && decide (m4 ≤ 2000)))))) := by unfold Hid lightE; rw [hn, hm1, hm2, hm3, hm4]
  rw [hm1] at h1; rw [hm2] at h2; rw [hm3] at h3; rw [hm4] at h4
  clear hm1 hm2 hm3 hm4 hn o1
  by_cases q0 : 100 < n
  · have E : lightE e = false := by rw [hsh.out]; simp; omega
    have t0 : ¬ (n : Int) ≤ 100 := by omega
    rw [E]
    clear hsh E
    go_enter Tryd.func4, Tryd.ntmps4
    go_wp2
    go_ret
    exact ⟨rfl, hb⟩
  by_cases q1 : 2000 < m1
  · have E : lightE e = false := by rw [hsh.out]; simp; omega
    have t0 : (n : Int) ≤ 100 := by omega
    have t1 : ¬ (m1 : Int) ≤ 2000 := by omega
    rw [E]
    clear hsh E
    go_enter Tryd.func4, Tryd.ntmps4
    go_wp2
    go_ret
    exact ⟨rfl, hb⟩
  by_cases q2 : 2000 < m2
  · have E : lightE e = false := by rw [hsh.out]; simp; omega
    have t0 : (n : Int) ≤ 100 := by omega
    have t1 : (m1 : Int) ≤ 2000 := by omega
    have t2 : ¬ (m2 : Int) ≤ 2000 := by omega
    rw [E]
    clear hsh E
    go_enter Tryd.func4, Tryd.ntmps4
    go_wp2
    go_ret
    exact ⟨rfl, hb⟩
  by_cases q3 : 2000 < m3
  · have E : lightE e = false := by rw [hsh.out]; simp; omega
    have t0 : (n : Int) ≤ 100 := by omega
    have t1 : (m1 : Int) ≤ 2000 := by omega
    have t2 : (m2 : Int) ≤ 2000 := by omega
    have t3 : ¬ (m3 : Int) ≤ 2000 := by omega
    rw [E]
    clear hsh E
    go_enter Tryd.func4, Tryd.ntmps4
    go_wp2
    go_ret
    exact ⟨rfl, hb⟩
  by_cases q4 : 2000 < m4
  · have E : lightE e = false := by rw [hsh.out]; simp; omega
    have t0 : (n : Int) ≤ 100 := by omega
    have t1 : (m1 : Int) ≤ 2000 := by omega
    have t2 : (m2 : Int) ≤ 2000 := by omega
    have t3 : (m3 : Int) ≤ 2000 := by omega
    have t4 : ¬ (m4 : Int) ≤ 2000 := by omega
    rw [E]
    clear hsh E
    go_enter Tryd.func4, Tryd.ntmps4
    go_wp2
    go_ret
    exact ⟨rfl, hb⟩
  have E : lightE e = true := by rw [hsh.out]; simp; omega
  have t0 : (n : Int) ≤ 100 := by omega
  have t1 : (m1 : Int) ≤ 2000 := by omega
  have t2 : (m2 : Int) ≤ 2000 := by omega
  have t3 : (m3 : Int) ≤ 2000 := by omega
  have t4 : (m4 : Int) ≤ 2000 := by omega
  rw [E]
  clear hsh E
  go_enter Tryd.func4, Tryd.ntmps4
  go_wp2
  go_ret
  exact ⟨rfl, hb⟩

set_option maxHeartbeats 4000000 in
theorem eqCookie (x y : ItemL) (w : World) :
    Sem.run Tryd.prog (Op.equalIn 10000 31 (.agg #[.string (str x.val), .bool x.host, .bool x.sec, .bool x.http, .bool x.pers, .int .i64 x.exp, .int .i64 x.made, .int .i64 x.used]) (.agg #[.string (str y.val), .bool y.host, .bool y.sec, .bool y.http, .bool y.pers, .int .i64 y.exp, .int .i64 y.made, .int .i64 y.used])) w = Result.ok (likeC x y) w := by
  have hk := str_toList
  unfold likeC
  cases h0 : (x.val == y.val) with
  | false => simp [go_sem, hk, h0]
  | true =>
  cases h1 : (x.host == y.host) with
  | false => simp [go_sem, hk, h0, h1]
  | true =>
  cases h2 : (x.sec == y.sec) with
  | false => simp [go_sem, hk, h0, h1, h2]
  | true =>
  cases h3 : (x.http == y.http) with
  | false => simp [go_sem, hk, h0, h1, h2, h3]
  | true =>
  cases h4 : (x.pers == y.pers) with
  | false => simp [go_sem, hk, h0, h1, h2, h3, h4]
  | true =>
  cases h5 : (x.exp == y.exp) with
  | false => simp [go_sem, hk, h0, h1, h2, h3, h4, h5]
  | true =>
  cases h6 : (x.made == y.made) with
  | false => simp [go_sem, hk, h0, h1, h2, h3, h4, h5, h6]
  | true =>
  cases h7 : (x.used == y.used) with
  | false => simp [go_sem, hk, h0, h1, h2, h3, h4, h5, h6, h7]
  | true =>
  simp [go_sem, hk, h0, h1, h2, h3, h4, h5, h6, h7]

theorem eqKeyE (x y : ItemL) (w : World) :
    Sem.run Tryd.prog (Op.equalIn 10000 29 (.agg #[.string (str x.name), .string (str x.dom), .string (str x.path)]) (.agg #[.string (str y.name), .string (str y.dom), .string (str y.path)])) w = Result.ok (sameKey x y) w := by
  have hk := str_toList
  unfold sameKey
  cases h1 : x.name == y.name <;> cases h2 : x.dom == y.dom <;> cases h3 : x.path == y.path <;> simp [go_sem, hk, h1, h2, h3]

theorem eqStampE (x y : StampN) (w : World) : Sem.run Tryd.prog (Op.equalIn 10000 27 (.agg #[.int .i64 x.wall, .int .i64 x.count, .int .i64 x.dev]) (.agg #[.int .i64 y.wall, .int .i64 y.count, .int .i64 y.dev])) w = Result.ok (sameT x y) w := by
  unfold sameT
  cases h1 : x.wall == y.wall <;> cases h2 : x.count == y.count <;> cases h3 : x.dev == y.dev <;> simp [go_sem, h1, h2, h3]

set_option maxHeartbeats 4000000 in
set_option maxRecDepth 100000 in
theorem refESameC (x y : EventN) (a b : Option Addr) (n c m d : Nat) (w : World) (hx : RowOf encD 3 w a n c x.over) (hy : RowOf encD 3 w b m d y.over) :
    Calls Tryd.prog 6 #[.agg #[.int .i64 x.dot.dev, .int .i64 x.dot.inc, .int .i64 x.dot.seq, .int .i64 x.stamp.wall, .int .i64 x.stamp.count, .int .i64 x.stamp.dev, .int .i64 x.kind, .string (str x.item.name), .string (str x.item.dom), .string (str x.item.path), .string (str x.item.val), .bool x.item.host, .bool x.item.sec, .bool x.item.http, .bool x.item.pers, .int .i64 x.item.exp, .int .i64 x.item.made, .int .i64 x.item.used, .slice a n c], .agg #[.int .i64 y.dot.dev, .int .i64 y.dot.inc, .int .i64 y.dot.seq, .int .i64 y.stamp.wall, .int .i64 y.stamp.count, .int .i64 y.stamp.dev, .int .i64 y.kind, .string (str y.item.name), .string (str y.item.dom), .string (str y.item.path), .string (str y.item.val), .bool y.item.host, .bool y.item.sec, .bool y.item.http, .bool y.item.pers, .int .i64 y.item.exp, .int .i64 y.item.made, .int .i64 y.item.used, .slice b m d]] w fun en w' => en = .returned (.bool (sameE x y)) ∧ Below w.heap.size w w' := by
  obtain ⟨o1, o2, hb⟩ := objsE2 w #[.int .i64 x.dot.dev, .int .i64 x.dot.inc, .int .i64 x.dot.seq, .int .i64 x.stamp.wall, .int .i64 x.stamp.count, .int .i64 x.stamp.dev, .int .i64 x.kind, .string (str x.item.name), .string (str x.item.dom), .string (str x.item.path), .string (str x.item.val), .bool x.item.host, .bool x.item.sec, .bool x.item.http, .bool x.item.pers, .int .i64 x.item.exp, .int .i64 x.item.made, .int .i64 x.item.used, .slice a n c] #[.int .i64 y.dot.dev, .int .i64 y.dot.inc, .int .i64 y.dot.seq, .int .i64 y.stamp.wall, .int .i64 y.stamp.count, .int .i64 y.stamp.dev, .int .i64 y.kind, .string (str y.item.name), .string (str y.item.dom), .string (str y.item.path), .string (str y.item.val), .bool y.item.host, .bool y.item.sec, .bool y.item.http, .bool y.item.pers, .int .i64 y.item.exp, .int .i64 y.item.made, .int .i64 y.item.used, .slice b m d] 34 34
  generalize hv : (w.alloc (.cells #[.int .i64 x.dot.dev, .int .i64 x.dot.inc, .int .i64 x.dot.seq, .int .i64 x.stamp.wall, .int .i64 x.stamp.count, .int .i64 x.stamp.dev, .int .i64 x.kind, .string (str x.item.name), .string (str x.item.dom), .string (str x.item.path), .string (str x.item.val), .bool x.item.host, .bool x.item.sec, .bool x.item.http, .bool x.item.pers, .int .i64 x.item.exp, .int .i64 x.item.made, .int .i64 x.item.used, .slice a n c] 34)).alloc (.cells #[.int .i64 y.dot.dev, .int .i64 y.dot.inc, .int .i64 y.dot.seq, .int .i64 y.stamp.wall, .int .i64 y.stamp.count, .int .i64 y.stamp.dev, .int .i64 y.kind, .string (str y.item.name), .string (str y.item.dom), .string (str y.item.path), .string (str y.item.val), .bool y.item.host, .bool y.item.sec, .bool y.item.http, .bool y.item.pers, .int .i64 y.item.exp, .int .i64 y.item.made, .int .i64 y.item.used, .slice b m d] 34) = v at *
  have u0 := o1.cell 0 rfl; have u1 := o1.cell 1 rfl; have u2 := o1.cell 2 rfl; have u3 := o1.cell 3 rfl; have u4 := o1.cell 4 rfl; have u5 := o1.cell 5 rfl; have u6 := o1.cell 6 rfl; have u7 := o1.cell 7 rfl; have u8 := o1.cell 8 rfl; have u9 := o1.cell 9 rfl; have u10 := o1.cell 10 rfl; have u11 := o1.cell 11 rfl; have u12 := o1.cell 12 rfl; have u13 := o1.cell 13 rfl; have u14 := o1.cell 14 rfl; have u15 := o1.cell 15 rfl; have u16 := o1.cell 16 rfl; have u17 := o1.cell 17 rfl; have u18 := o1.cell 18 rfl
  have r0 := o2.cell 0 rfl; have r1 := o2.cell 1 rfl; have r2 := o2.cell 2 rfl; have r3 := o2.cell 3 rfl; have r4 := o2.cell 4 rfl; have r5 := o2.cell 5 rfl; have r6 := o2.cell 6 rfl; have r7 := o2.cell 7 rfl; have r8 := o2.cell 8 rfl; have r9 := o2.cell 9 rfl; have r10 := o2.cell 10 rfl; have r11 := o2.cell 11 rfl; have r12 := o2.cell 12 rfl; have r13 := o2.cell 13 rfl; have r14 := o2.cell 14 rfl; have r15 := o2.cell 15 rfl; have r16 := o2.cell 16 rfl; have r17 := o2.cell 17 rfl; have r18 := o2.cell 18 rfl
  have hE1 := eqDot x.dot y.dot
  have hE2 := eqStampE x.stamp y.stamp
  have hE3 := eqKeyE x.item y.item
  have hE4 := eqCookie x.item y.item
  have HS := refSameDC a b n m c d x.over y.over v (hx.below hb) (hy.below hb)
  have E0 : Hid (sameE x y = (sameD x.dot y.dot && (sameT x.stamp y.stamp && (x.kind == y.kind && (sameKey x.item y.item && (likeC x.item y.item && sameDs x.over y.over)))))) := rfl
  rw [E0.out]
  generalize sameDs x.over y.over = b6 at *
  generalize likeC x.item y.item = b5 at *
  generalize sameKey x.item y.item = b4 at *
  generalize hb3 : (x.kind == y.kind) = b3 at *
  generalize sameT x.stamp y.stamp = b2 at *
  generalize sameD x.dot y.dot = b1 at *
  clear E0 o1 o2 hx hy
  cases b1
  · go_enter Tryd.func6, Tryd.ntmps6
    go_wp2
    go_ret
    exact ⟨rfl, hb⟩
  cases b2
  · go_enter Tryd.func6, Tryd.ntmps6
    go_wp2
    go_ret
    exact ⟨rfl, hb⟩
  cases b3
  · go_enter Tryd.func6, Tryd.ntmps6
    go_wp2
    go_ret
    exact ⟨rfl, hb⟩
  cases b4
  · go_enter Tryd.func6, Tryd.ntmps6
    go_wp2
    go_ret
    exact ⟨rfl, hb⟩
  cases b5
  · go_enter Tryd.func6, Tryd.ntmps6
    go_wp2
    go_ret
    exact ⟨rfl, hb⟩
  go_enter Tryd.func6, Tryd.ntmps6
  go_wp2_with (go_at_call 12; (with_reducible refine HS.mono ?_); rintro e w1 ⟨rfl, k, rfl⟩)
  go_ret
  exact ⟨by cases b6 <;> rfl, below_drawn2 hb _⟩
end Go.Proofs.YtkakcdojbgnocaaDoor
