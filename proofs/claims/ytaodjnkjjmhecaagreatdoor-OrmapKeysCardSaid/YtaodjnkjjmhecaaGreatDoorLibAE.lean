/- Contracts and plain words that the laws' proofs stand on. -/
import Derived.Test.YtaodjnkjjmhecaaGreatDoorLibAK
namespace Go.Proofs.YtaodjnkjjmhecaaGreatDoor
set_option linter.unusedVariables false
def sameDs : List DotN → List DotN → Bool
  | [], [] => true
  | x :: l, y :: m => sameD x y && sameDs l m
  | _, _ => false
theorem sameDs_iff : ∀ {l m : List DotN}, sameDs l m = true ↔ l = m
  | [], [] => by simp [sameDs]
  | [], _ :: _ => by simp [sameDs]
  | _ :: _, [] => by simp [sameDs]
  | x :: l, y :: m => by rw [sameDs, Bool.and_eq_true, sameD_iff, sameDs_iff, List.cons.injEq]
theorem StampN.ext' {a b : StampN} (h1 : a.wall = b.wall) (h2 : a.count = b.count) (h3 : a.dev = b.dev) : a = b := by
  cases a; cases b
  simp only at h1 h2 h3
  subst h1 h2 h3
  rfl
def sameT (x y : StampN) : Bool := x.wall == y.wall && (x.count == y.count && x.dev == y.dev)
theorem sameT_iff {x y : StampN} : sameT x y = true ↔ x = y := by
  unfold sameT
  simp only [Bool.and_eq_true, beq_iff_eq]
  constructor
  · rintro ⟨h1, h2, h3⟩
    exact StampN.ext' h1 h2 h3
  · rintro rfl
    exact ⟨rfl, rfl, rfl⟩
def sameE (a b : EventN) : Bool := sameD a.dot b.dot && (sameT a.stamp b.stamp && (a.kind == b.kind && (sameKey a.item b.item && (likeC a.item b.item && sameDs a.over b.over))))
end Go.Proofs.YtaodjnkjjmhecaaGreatDoor
namespace Go.Proofs.YtaodjnkjjmhecaaGreatDoor
open Go.RowKit
set_option linter.unusedVariables false
set_option maxHeartbeats 2000000 in
set_option maxRecDepth 100000 in
theorem refSameDC (a b : Option Addr) (n m c1 c2 : Nat) (L M : List DotN) (w : World) (hL : RowOf encD 3 w a n c1 L) (hM : RowOf encD 3 w b m c2 M) :
    Calls Tryz.prog 80 #[.slice a n c1, .slice b m c2] w fun e w' => e = .returned (.bool (sameDs L M)) ∧ ∃ k, w' = w.drewN k := by
  have hn := hL.leq
  have hm := hM.leq
  by_cases hnm : n = m
  · subst hnm
    have hcm := hL.capm
    have hcl := hL.cle
    unfold maxLen at hcm
    have HL := Lib.hid hL
    have HM := Lib.hid hM
    have Hn := Lib.hid hn
    have Hm := Lib.hid hm
    clear hL hM hn hm
    go_enter Tryz.func80, Tryz.ntmps80
    go_wp2
    go_loopw [5] (fun i wr => ∃ k q : Nat, k ≤ n ∧ i = .int .i64 (k : Int) ∧ Hid (L.take k = M.take k) ∧ wr = w.drewN q) (fun i _ => n - (intOf i).toNat)
    case atStart => exact ⟨0, 0, Nat.zero_le _, rfl, rfl, rfl⟩
    case round =>
      obtain ⟨k, q, hk, rfl, hs, rfl⟩ := hrel
      by_cases hlt : k < n
      · have hlt' : (k : Int) < (n : Int) := by omega
        obtain ⟨x, g1, o1, hx, rfl, c0, c1, c2⟩ := dot_at HL.out k hlt
        obtain ⟨y, g2, o2, hy, rfl, d0, d1, d2⟩ := dot_at HM.out k hlt
        have hT : Hid (x = y → L.take (k + 1) = M.take (k + 1)) := fun e => by rw [take_snocI hx, take_snocI hy, hs.out, e]
        have hN : Hid (x ≠ y → sameDs L M = false) := fun e => by
          rw [Bool.eq_false_iff]
          intro c
          rw [sameDs_iff] at c
          subst c
          rw [hx] at hy
          exact e (by cases hy; rfl)
        have hE := eqDot x y
        clear hx hy
        by_cases hxy : x = y
        · have h3 := Lib.hid (hT.out hxy)
          rw [sameD_iff.2 hxy] at hE
          clear hT hN hs hxy
          go_wp2_with fail
          go_quiet (fail)
          go_wp2
          go_roundw
          case rel => exact ⟨k + 1, _, by omega, by go_num, h3, by first | rfl | simp⟩
          case measure => simp [intOf]; omega
        · have h2 := Lib.hid (hN.out hxy)
          rw [Bool.eq_false_iff.2 (fun c => hxy (sameD_iff.1 c))] at hE
          clear hT hN hs hxy
          go_wp2_with fail
          go_quiet (fail)
          go_wp2
          go_ret
          exact ⟨by rw [h2.out]; rfl, _, World.drewN_drewN _ _ _⟩
      · obtain rfl : k = n := by omega
        have e : Hid (sameDs L M = true) := by
          have h1 := hs.out
          rw [List.take_of_length_le (by rw [Hn.out]; exact Nat.le_refl _), List.take_of_length_le (by rw [Hm.out]; exact Nat.le_refl _)] at h1
          unfold Hid
          rw [sameDs_iff]
          exact h1
        go_wp2
        go_ret
        exact ⟨by rw [e.out]; rfl, q, rfl⟩
  · have h1 : sameDs L M = false := by
      rw [Bool.eq_false_iff]
      intro c
      rw [sameDs_iff] at c
      subst c
      exact hnm (hn.symm.trans hm)
    have h2 : ¬ (n : Int) = (m : Int) := by omega
    have h3 : ((n : Int) == (m : Int)) = false := beq_eq_false_iff_ne.2 h2
    rw [h1]
    clear hL hM hn hm
    go_enter Tryz.func80, Tryz.ntmps80
    go_wp2
    go_ret
    exact ⟨rfl, 0, rfl⟩
set_option maxHeartbeats 4000000 in
theorem eqCookie (x y : ItemL) (w : World) :
    Sem.run Tryz.prog (Op.equalIn 10000 41 (.agg #[.string (str x.val), .bool x.host, .bool x.sec, .bool x.http, .bool x.pers, .int .i64 x.exp, .int .i64 x.made, .int .i64 x.used]) (.agg #[.string (str y.val), .bool y.host, .bool y.sec, .bool y.http, .bool y.pers, .int .i64 y.exp, .int .i64 y.made, .int .i64 y.used])) w = Result.ok (likeC x y) w := by
  have hk := str_toList
  unfold likeC
  cases h0 : (x.val == y.val) with
  | false => simp [go_sem, hk, h0]
  | true =>
  cases h1 : (x.host == y.host) with
  | false => simp [go_sem, hk, h0, h1]
  | true =>
  cases h2 : (x.sec == y.sec) with
  | false => simp [go_sem, hk, h0, h1, h2]
  | true =>
  cases h3 : (x.http == y.http) with
  | false => simp [go_sem, hk, h0, h1, h2, h3]
  | true =>
  cases h4 : (x.pers == y.pers) with
  | false => simp [go_sem, hk, h0, h1, h2, h3, h4]
  | true =>
  cases h5 : (x.exp == y.exp) with
  | false => simp [go_sem, hk, h0, h1, h2, h3, h4, h5]
  | true =>
  cases h6 : (x.made == y.made) with
  | false => simp [go_sem, hk, h0, h1, h2, h3, h4, h5, h6]
  | true =>
  cases h7 : (x.used == y.used) with
  | false => simp [go_sem, hk, h0, h1, h2, h3, h4, h5, h6, h7]
  | true =>
  simp [go_sem, hk, h0, h1, h2, h3, h4, h5, h6, h7]
theorem eqKeyE (x y : ItemL) (w : World) :
    Sem.run Tryz.prog (Op.equalIn 10000 39 (.agg #[.string (str x.name), .string (str x.dom), .string (str x.path)]) (.agg #[.string (str y.name), .string (str y.dom), .string (str y.path)])) w = Result.ok (sameKey x y) w := by
  have hk := str_toList
  unfold sameKey
  cases h1 : x.name == y.name <;> cases h2 : x.dom == y.dom <;> cases h3 : x.path == y.path <;> simp [go_sem, hk, h1, h2, h3]
theorem eqStampE (x y : StampN) (w : World) : Sem.run Tryz.prog (Op.equalIn 10000 37 (.agg #[.int .i64 x.wall, .int .i64 x.count, .int .i64 x.dev]) (.agg #[.int .i64 y.wall, .int .i64 y.count, .int .i64 y.dev])) w = Result.ok (sameT x y) w := by
  unfold sameT
  cases h1 : x.wall == y.wall <;> cases h2 : x.count == y.count <;> cases h3 : x.dev == y.dev <;> simp [go_sem, h1, h2, h3]
set_option maxHeartbeats 4000000 in
set_option maxRecDepth 100000 in
theorem refESameC (x y : EventN) (a b : Option Addr) (n c m d : Nat) (w : World) (hx : RowOf encD 3 w a n c x.over) (hy : RowOf encD 3 w b m d y.over) :
    Calls Tryz.prog 35 #[.agg #[.int .i64 x.dot.dev, .int .i64 x.dot.inc, .int .i64 x.dot.seq, .int .i64 x.stamp.wall, .int .i64 x.stamp.count, .int .i64 x.stamp.dev, .int .i64 x.kind, .string (str x.item.name), .string (str x.item.dom), .string (str x.item.path), .string (str x.item.val), .bool x.item.host, .bool x.item.sec, .bool x.item.http, .bool x.item.pers, .int .i64 x.item.exp, .int .i64 x.item.made, .int .i64 x.item.used, .slice a n c], .agg #[.int .i64 y.dot.dev, .int .i64 y.dot.inc, .int .i64 y.dot.seq, .int .i64 y.stamp.wall, .int .i64 y.stamp.count, .int .i64 y.stamp.dev, .int .i64 y.kind, .string (str y.item.name), .string (str y.item.dom), .string (str y.item.path), .string (str y.item.val), .bool y.item.host, .bool y.item.sec, .bool y.item.http, .bool y.item.pers, .int .i64 y.item.exp, .int .i64 y.item.made, .int .i64 y.item.used, .slice b m d]] w fun en w' => en = .returned (.bool (sameE x y)) ∧ Below w.heap.size w w' := by
  obtain ⟨o1, o2, hb⟩ := objsE2 w #[.int .i64 x.dot.dev, .int .i64 x.dot.inc, .int .i64 x.dot.seq, .int .i64 x.stamp.wall, .int .i64 x.stamp.count, .int .i64 x.stamp.dev, .int .i64 x.kind, .string (str x.item.name), .string (str x.item.dom), .string (str x.item.path), .string (str x.item.val), .bool x.item.host, .bool x.item.sec, .bool x.item.http, .bool x.item.pers, .int .i64 x.item.exp, .int .i64 x.item.made, .int .i64 x.item.used, .slice a n c] #[.int .i64 y.dot.dev, .int .i64 y.dot.inc, .int .i64 y.dot.seq, .int .i64 y.stamp.wall, .int .i64 y.stamp.count, .int .i64 y.stamp.dev, .int .i64 y.kind, .string (str y.item.name), .string (str y.item.dom), .string (str y.item.path), .string (str y.item.val), .bool y.item.host, .bool y.item.sec, .bool y.item.http, .bool y.item.pers, .int .i64 y.item.exp, .int .i64 y.item.made, .int .i64 y.item.used, .slice b m d] 43 43
  generalize hv : (w.alloc (.cells #[.int .i64 x.dot.dev, .int .i64 x.dot.inc, .int .i64 x.dot.seq, .int .i64 x.stamp.wall, .int .i64 x.stamp.count, .int .i64 x.stamp.dev, .int .i64 x.kind, .string (str x.item.name), .string (str x.item.dom), .string (str x.item.path), .string (str x.item.val), .bool x.item.host, .bool x.item.sec, .bool x.item.http, .bool x.item.pers, .int .i64 x.item.exp, .int .i64 x.item.made, .int .i64 x.item.used, .slice a n c] 43)).alloc (.cells #[.int .i64 y.dot.dev, .int .i64 y.dot.inc, .int .i64 y.dot.seq, .int .i64 y.stamp.wall, .int .i64 y.stamp.count, .int .i64 y.stamp.dev, .int .i64 y.kind, .string (str y.item.name), .string (str y.item.dom), .string (str y.item.path), .string (str y.item.val), .bool y.item.host, .bool y.item.sec, .bool y.item.http, .bool y.item.pers, .int .i64 y.item.exp, .int .i64 y.item.made, .int .i64 y.item.used, .slice b m d] 43) = v at *
  have u0 := o1.cell 0 rfl; have u1 := o1.cell 1 rfl; have u2 := o1.cell 2 rfl; have u3 := o1.cell 3 rfl; have u4 := o1.cell 4 rfl; have u5 := o1.cell 5 rfl; have u6 := o1.cell 6 rfl; have u7 := o1.cell 7 rfl; have u8 := o1.cell 8 rfl; have u9 := o1.cell 9 rfl; have u10 := o1.cell 10 rfl; have u11 := o1.cell 11 rfl; have u12 := o1.cell 12 rfl; have u13 := o1.cell 13 rfl; have u14 := o1.cell 14 rfl; have u15 := o1.cell 15 rfl; have u16 := o1.cell 16 rfl; have u17 := o1.cell 17 rfl; have u18 := o1.cell 18 rfl
  have r0 := o2.cell 0 rfl; have r1 := o2.cell 1 rfl; have r2 := o2.cell 2 rfl; have r3 := o2.cell 3 rfl; have r4 := o2.cell 4 rfl; have r5 := o2.cell 5 rfl; have r6 := o2.cell 6 rfl; have r7 := o2.cell 7 rfl; have r8 := o2.cell 8 rfl; have r9 := o2.cell 9 rfl; have r10 := o2.cell 10 rfl; have r11 := o2.cell 11 rfl; have r12 := o2.cell 12 rfl; have r13 := o2.cell 13 rfl; have r14 := o2.cell 14 rfl; have r15 := o2.cell 15 rfl; have r16 := o2.cell 16 rfl; have r17 := o2.cell 17 rfl; have r18 := o2.cell 18 rfl
  have hE1 := eqDot x.dot y.dot
  have hE2 := eqStampE x.stamp y.stamp
  have hE3 := eqKeyE x.item y.item
  have hE4 := eqCookie x.item y.item
  have HS := refSameDC a b n m c d x.over y.over v (hx.below hb) (hy.below hb)
  have E0 : Hid (sameE x y = (sameD x.dot y.dot && (sameT x.stamp y.stamp && (x.kind == y.kind && (sameKey x.item y.item && (likeC x.item y.item && sameDs x.over y.over)))))) := rfl
  rw [E0.out]
  generalize sameDs x.over y.over = b6 at *
  generalize likeC x.item y.item = b5 at *
  generalize sameKey x.item y.item = b4 at *
  generalize hb3 : (x.kind == y.kind) = b3 at *
  generalize sameT x.stamp y.stamp = b2 at *
  generalize sameD x.dot y.dot = b1 at *
  clear E0 o1 o2 hx hy
  cases b1
  · go_enter Tryz.func35, Tryz.ntmps35
    go_wp2
    go_ret
    exact ⟨rfl, hb⟩
  cases b2
  · go_enter Tryz.func35, Tryz.ntmps35
    go_wp2
    go_ret
    exact ⟨rfl, hb⟩
  cases b3
  · go_enter Tryz.func35, Tryz.ntmps35
    go_wp2
    go_ret
    exact ⟨rfl, hb⟩
  cases b4
  · go_enter Tryz.func35, Tryz.ntmps35
    go_wp2
    go_ret
    exact ⟨rfl, hb⟩
  cases b5
  · go_enter Tryz.func35, Tryz.ntmps35
    go_wp2
    go_ret
    exact ⟨rfl, hb⟩
  go_enter Tryz.func35, Tryz.ntmps35
  go_wp2_with (go_at_call 80; (with_reducible refine HS.mono ?_); rintro e w1 ⟨rfl, k, rfl⟩)
  go_ret
  exact ⟨by cases b6 <;> rfl, below_drawn2 hb _⟩
end Go.Proofs.YtaodjnkjjmhecaaGreatDoor
