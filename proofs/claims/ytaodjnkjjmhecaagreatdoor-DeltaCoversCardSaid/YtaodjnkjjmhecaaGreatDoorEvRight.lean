/- Contracts and plain words that the laws' proofs stand on. -/
import Derived.Test.YtaodjnkjjmhecaaGreatDoorLibBE
import Derived.Test.YtaodjnkjjmhecaaGreatDoorLibBG
namespace Go.Proofs.YtaodjnkjjmhecaaGreatDoor
open Go.RowKit
set_option linter.unusedVariables false
set_option maxHeartbeats 4000000 in
set_option maxRecDepth 100000 in
theorem rightKindC (e : EventN) (a : Option Addr) (n c : Nat) (w : World) (h : RowOf encD 3 w a n c e.over) (hl : lightE e = true) (hT : PTab Tryz.prog w) :
    Calls Tryz.prog 112 #[.agg #[.int .i64 e.dot.dev, .int .i64 e.dot.inc, .int .i64 e.dot.seq, .int .i64 e.stamp.wall, .int .i64 e.stamp.count, .int .i64 e.stamp.dev, .int .i64 e.kind, .string (str e.item.name), .string (str e.item.dom), .string (str e.item.path), .string (str e.item.val), .bool e.item.host, .bool e.item.sec, .bool e.item.http, .bool e.item.pers, .int .i64 e.item.exp, .int .i64 e.item.made, .int .i64 e.item.used, .slice a n c]] w fun en w' => en = .returned (.bool (kindE e)) ∧ Below w.heap.size w w' := by
  have hb := below_alloc w (.cells #[.int .i64 e.dot.dev, .int .i64 e.dot.inc, .int .i64 e.dot.seq, .int .i64 e.stamp.wall, .int .i64 e.stamp.count, .int .i64 e.stamp.dev, .int .i64 e.kind, .string (str e.item.name), .string (str e.item.dom), .string (str e.item.path), .string (str e.item.val), .bool e.item.host, .bool e.item.sec, .bool e.item.http, .bool e.item.pers, .int .i64 e.item.exp, .int .i64 e.item.made, .int .i64 e.item.used, .slice a n c] 43)
  have O := ObjAt.new w #[.int .i64 e.dot.dev, .int .i64 e.dot.inc, .int .i64 e.dot.seq, .int .i64 e.stamp.wall, .int .i64 e.stamp.count, .int .i64 e.stamp.dev, .int .i64 e.kind, .string (str e.item.name), .string (str e.item.dom), .string (str e.item.path), .string (str e.item.val), .bool e.item.host, .bool e.item.sec, .bool e.item.http, .bool e.item.pers, .int .i64 e.item.exp, .int .i64 e.item.made, .int .i64 e.item.used, .slice a n c] 43
  have hTv := hT.below hb
  generalize hv : w.alloc (.cells #[.int .i64 e.dot.dev, .int .i64 e.dot.inc, .int .i64 e.dot.seq, .int .i64 e.stamp.wall, .int .i64 e.stamp.count, .int .i64 e.stamp.dev, .int .i64 e.kind, .string (str e.item.name), .string (str e.item.dom), .string (str e.item.path), .string (str e.item.val), .bool e.item.host, .bool e.item.sec, .bool e.item.http, .bool e.item.pers, .int .i64 e.item.exp, .int .i64 e.item.made, .int .i64 e.item.used, .slice a n c] 43) = v at *
  have hn := h.leq
  have hcm := h.capm
  have hcl := h.cle
  unfold maxLen at hcm
  unfold lightE at hl
  simp only [Bool.and_eq_true, decide_eq_true_eq] at hl
  obtain ⟨l0, l1, l2, l3, l4⟩ := hl
  have HI := fun v => itemE e a n c v
  have HX := fun v (t : PTab Tryz.prog v) => rightC14 e.item.name e.item.dom e.item.path e.item.val e.item.host e.item.sec e.item.http e.item.pers e.item.exp e.item.made e.item.used v (by omega) (by omega) (by omega) (by omega) t
  have HZ := fun v => eqItemO e.item v
  have hsz : (#[.int .i64 e.dot.dev, .int .i64 e.dot.inc, .int .i64 e.dot.seq, .int .i64 e.stamp.wall, .int .i64 e.stamp.count, .int .i64 e.stamp.dev, .int .i64 e.kind, .string (str e.item.name), .string (str e.item.dom), .string (str e.item.path), .string (str e.item.val), .bool e.item.host, .bool e.item.sec, .bool e.item.http, .bool e.item.pers, .int .i64 e.item.exp, .int .i64 e.item.made, .int .i64 e.item.used, .slice a n c] : Array Value).size = 19 := rfl
  have c6 := O.cell 6 rfl
  have c18 : ∀ v', Below v.heap.size v v' → v'.cell? ⟨w.heap.size, 18, none⟩ = some (.slice a n c) := fun v' hx => (O.below hx O.lt).cell 18 rfl
  obtain ⟨A, hA⟩ : ∃ A, (#[.int .i64 e.dot.dev, .int .i64 e.dot.inc, .int .i64 e.dot.seq, .int .i64 e.stamp.wall, .int .i64 e.stamp.count, .int .i64 e.stamp.dev, .int .i64 e.kind, .string (str e.item.name), .string (str e.item.dom), .string (str e.item.path), .string (str e.item.val), .bool e.item.host, .bool e.item.sec, .bool e.item.http, .bool e.item.pers, .int .i64 e.item.exp, .int .i64 e.item.made, .int .i64 e.item.used, .slice a n c] : Array Value) = A := ⟨_, rfl⟩
  rw [hA] at O hsz hv
  simp only [hA] at HI
  rw [hA]
  have E : Hid (kindE e = if e.kind = 1 then rightX e.item else e.kind == 2 && (sameKey e.item ItemL.none && likeC e.item ItemL.none) && decide (0 < n)) := by
    show _ = _
    unfold kindE
    rw [hn]
  have HXX := Lib.hid (rfl : rightX e.item = rightX e.item)
  clear h hT l0 l1 l2 l3 l4 hA hn
  by_cases q1 : e.kind = 1
  · rw [if_pos q1] at E
    have k1 : (e.kind == 1) = true := by simp [q1]
    generalize rightX e.item = RX at *
    clear q1 HZ c18
    go_enter Tryz.func112, Tryz.ntmps112
    go_wp2_with (first
      | (refine wpList_loadAll rfl 43 _ rfl w.heap.size 19 A rfl O Tryz.isAgg43 Tryz.sizeOf43 hsz ?_)
      | (go_at_call 150; (with_reducible refine (HI _).mono ?_); rintro e1 w1 ⟨rfl, hx⟩; have hb := hb.trans (hx.mono hb.size); have hTv := hTv.below hx; clear hx)
      | (go_at_call 149; (with_reducible refine (HX _ hTv).mono ?_); rintro e2 w2 ⟨rfl, hx⟩; have hb := hb.trans (hx.mono hb.size); clear hx))
    go_ret
    exact ⟨by rw [E.out]; rfl, hb⟩
  · rw [if_neg q1] at E
    have k1 : (e.kind == 1) = false := by simp [q1]
    clear q1 HX
    cases q2 : (e.kind == 2) with
    | false =>
      rw [q2, Bool.false_and, Bool.false_and] at E
      clear HZ HI
      go_enter Tryz.func112, Tryz.ntmps112
      go_wp2
      go_ret
      exact ⟨by rw [E.out]; rfl, hb⟩
    | true =>
      rw [q2, Bool.true_and] at E
      cases q3 : (sameKey e.item ItemL.none && likeC e.item ItemL.none) with
      | false =>
        rw [q3, Bool.false_and] at E
        rw [q3] at HZ
        go_enter Tryz.func112, Tryz.ntmps112
        go_wp2_with (first
          | (refine wpList_loadAll rfl 43 _ rfl w.heap.size 19 A rfl O Tryz.isAgg43 Tryz.sizeOf43 hsz ?_)
          | (go_at_call 150; (with_reducible refine (HI _).mono ?_); rintro e1 w1 ⟨rfl, hx⟩; have hb := hb.trans (hx.mono hb.size); have d18 := c18 _ hx; clear hx))
        go_ret
        exact ⟨by rw [E.out]; rfl, hb⟩
      | true =>
        rw [q3, Bool.true_and] at E
        rw [q3] at HZ
        by_cases q4 : 0 < n
        · have q5 : (0 : Int) < (n : Int) := by omega
          rw [decide_eq_true q4] at E
          go_enter Tryz.func112, Tryz.ntmps112
          go_wp2_with (first
            | (refine wpList_loadAll rfl 43 _ rfl w.heap.size 19 A rfl O Tryz.isAgg43 Tryz.sizeOf43 hsz ?_)
            | (go_at_call 150; (with_reducible refine (HI _).mono ?_); rintro e1 w1 ⟨rfl, hx⟩; have hb := hb.trans (hx.mono hb.size); have d18 := c18 _ hx; clear hx))
          go_ret
          exact ⟨by rw [E.out]; rfl, hb⟩
        · have q5 : ¬ (0 : Int) < (n : Int) := by omega
          rw [decide_eq_false q4] at E
          go_enter Tryz.func112, Tryz.ntmps112
          go_wp2_with (first
            | (refine wpList_loadAll rfl 43 _ rfl w.heap.size 19 A rfl O Tryz.isAgg43 Tryz.sizeOf43 hsz ?_)
            | (go_at_call 150; (with_reducible refine (HI _).mono ?_); rintro e1 w1 ⟨rfl, hx⟩; have hb := hb.trans (hx.mono hb.size); have d18 := c18 _ hx; clear hx))
          go_ret
          exact ⟨by rw [E.out]; rfl, hb⟩
set_option maxHeartbeats 4000000 in
set_option maxRecDepth 100000 in
theorem eventRightC0 (e : EventN) (a : Option Addr) (n c : Nat) (w : World) (h : RowOf encD 3 w a n c e.over) (hl : lightE e = true) (hT : PTab Tryz.prog w) :
    Calls Tryz.prog 67 #[.agg #[.int .i64 e.dot.dev, .int .i64 e.dot.inc, .int .i64 e.dot.seq, .int .i64 e.stamp.wall, .int .i64 e.stamp.count, .int .i64 e.stamp.dev, .int .i64 e.kind, .string (str e.item.name), .string (str e.item.dom), .string (str e.item.path), .string (str e.item.val), .bool e.item.host, .bool e.item.sec, .bool e.item.http, .bool e.item.pers, .int .i64 e.item.exp, .int .i64 e.item.made, .int .i64 e.item.used, .slice a n c]] w fun en w' => en = .returned (.bool (rightE e)) ∧ Below w.heap.size w w' := by
  have hb := below_alloc w (.cells #[.int .i64 e.dot.dev, .int .i64 e.dot.inc, .int .i64 e.dot.seq, .int .i64 e.stamp.wall, .int .i64 e.stamp.count, .int .i64 e.stamp.dev, .int .i64 e.kind, .string (str e.item.name), .string (str e.item.dom), .string (str e.item.path), .string (str e.item.val), .bool e.item.host, .bool e.item.sec, .bool e.item.http, .bool e.item.pers, .int .i64 e.item.exp, .int .i64 e.item.made, .int .i64 e.item.used, .slice a n c] 43)
  have O := ObjAt.new w #[.int .i64 e.dot.dev, .int .i64 e.dot.inc, .int .i64 e.dot.seq, .int .i64 e.stamp.wall, .int .i64 e.stamp.count, .int .i64 e.stamp.dev, .int .i64 e.kind, .string (str e.item.name), .string (str e.item.dom), .string (str e.item.path), .string (str e.item.val), .bool e.item.host, .bool e.item.sec, .bool e.item.http, .bool e.item.pers, .int .i64 e.item.exp, .int .i64 e.item.made, .int .i64 e.item.used, .slice a n c] 43
  generalize hv : w.alloc (.cells #[.int .i64 e.dot.dev, .int .i64 e.dot.inc, .int .i64 e.dot.seq, .int .i64 e.stamp.wall, .int .i64 e.stamp.count, .int .i64 e.stamp.dev, .int .i64 e.kind, .string (str e.item.name), .string (str e.item.dom), .string (str e.item.path), .string (str e.item.val), .bool e.item.host, .bool e.item.sec, .bool e.item.http, .bool e.item.pers, .int .i64 e.item.exp, .int .i64 e.item.made, .int .i64 e.item.used, .slice a n c] 43) = v at *
  have HD := fun v => dotRightC0 e.dot v
  have HS := fun v => kRightU e.stamp v
  unfold valT at HS
  have HO := fun v (hv : Below w.heap.size w v) => rightOverC e a n c v (h.below hv)
  have HK := fun v (hv : Below w.heap.size w v) => rightKindC e a n c v (h.below hv) hl (hT.below hv)
  have hsz : (#[.int .i64 e.dot.dev, .int .i64 e.dot.inc, .int .i64 e.dot.seq, .int .i64 e.stamp.wall, .int .i64 e.stamp.count, .int .i64 e.stamp.dev, .int .i64 e.kind, .string (str e.item.name), .string (str e.item.dom), .string (str e.item.path), .string (str e.item.val), .bool e.item.host, .bool e.item.sec, .bool e.item.http, .bool e.item.pers, .int .i64 e.item.exp, .int .i64 e.item.made, .int .i64 e.item.used, .slice a n c] : Array Value).size = 19 := rfl
  obtain ⟨A, hA⟩ : ∃ A, (#[.int .i64 e.dot.dev, .int .i64 e.dot.inc, .int .i64 e.dot.seq, .int .i64 e.stamp.wall, .int .i64 e.stamp.count, .int .i64 e.stamp.dev, .int .i64 e.kind, .string (str e.item.name), .string (str e.item.dom), .string (str e.item.path), .string (str e.item.val), .bool e.item.host, .bool e.item.sec, .bool e.item.http, .bool e.item.pers, .int .i64 e.item.exp, .int .i64 e.item.made, .int .i64 e.item.used, .slice a n c] : Array Value) = A := ⟨_, rfl⟩
  have hc : ∀ v', ObjAt v' w.heap.size A.toList → v'.cell? ⟨w.heap.size, 0, none⟩ = some (.int .i64 e.dot.dev) ∧ v'.cell? ⟨w.heap.size, 1, none⟩ = some (.int .i64 e.dot.inc) ∧ v'.cell? ⟨w.heap.size, 2, none⟩ = some (.int .i64 e.dot.seq) ∧ v'.cell? ⟨w.heap.size, 3, none⟩ = some (.int .i64 e.stamp.wall) ∧ v'.cell? ⟨w.heap.size, 4, none⟩ = some (.int .i64 e.stamp.count) ∧ v'.cell? ⟨w.heap.size, 5, none⟩ = some (.int .i64 e.stamp.dev) := fun v' o => by
    rw [← hA] at o
    exact ⟨o.cell 0 rfl, o.cell 1 rfl, o.cell 2 rfl, o.cell 3 rfl, o.cell 4 rfl, o.cell 5 rfl⟩
  rw [hA] at O hsz hv
  simp only [hA] at HO HK
  rw [hA]
  rw [right_split e]
  obtain ⟨b1, h1⟩ : ∃ b, rightD e.dot = b := ⟨_, rfl⟩
  obtain ⟨b2, h2⟩ : ∃ b, rightT e.stamp = b := ⟨_, rfl⟩
  obtain ⟨b3, h3⟩ : ∃ b, (e.stamp.dev == e.dot.dev) = b := ⟨_, rfl⟩
  obtain ⟨b4, h4⟩ : ∃ b, overB e = b := ⟨_, rfl⟩
  obtain ⟨b5, h5⟩ : ∃ b, kindE e = b := ⟨_, rfl⟩
  rw [h1, h2, h3, h4, h5]
  rw [h1] at HD
  rw [h2] at HS
  simp only [h4] at HO
  simp only [h5] at HK
  clear h hl hT hA h1 h2 h4 h5
  obtain ⟨c0, c1, c2, c3, c4, c5⟩ := hc _ O
  cases b1 with
  | false =>
    go_enter Tryz.func67, Tryz.ntmps67
    go_wp2_with (first | (refine wpList_guard (by rfl) ?_; refine wpList_loadAll rfl 43 _ rfl w.heap.size 19 A rfl O Tryz.isAgg43 Tryz.sizeOf43 hsz ?_) | (go_at_call 109; (with_reducible refine (HD _).mono ?_); rintro e1 w1 ⟨rfl, hx⟩; have O := O.below hx O.lt; have hb := hb.trans (hx.mono hb.size); obtain ⟨c0, c1, c2, c3, c4, c5⟩ := hc _ O; clear hx) | (go_at_call 110; (with_reducible refine (HS _).mono ?_); rintro e2 w2 ⟨rfl, hx⟩; have O := O.below hx O.lt; have hb := hb.trans (hx.mono hb.size); obtain ⟨c0, c1, c2, c3, c4, c5⟩ := hc _ O; clear hx) | (go_at_call 111; (with_reducible refine (HO _ hb).mono ?_); rintro e3 w3 ⟨rfl, hx⟩; have O := O.below hx O.lt; have hb := hb.trans (hx.mono hb.size); obtain ⟨c0, c1, c2, c3, c4, c5⟩ := hc _ O; clear hx) | (go_at_call 112; (with_reducible refine (HK _ hb).mono ?_); rintro e4 w4 ⟨rfl, hx⟩; have hb := hb.trans (hx.mono hb.size)))
    go_ret
    exact ⟨rfl, hb⟩
  | true =>
  cases b2 with
  | false =>
    go_enter Tryz.func67, Tryz.ntmps67
    go_wp2_with (first | (refine wpList_guard (by rfl) ?_; refine wpList_loadAll rfl 43 _ rfl w.heap.size 19 A rfl O Tryz.isAgg43 Tryz.sizeOf43 hsz ?_) | (go_at_call 109; (with_reducible refine (HD _).mono ?_); rintro e1 w1 ⟨rfl, hx⟩; have O := O.below hx O.lt; have hb := hb.trans (hx.mono hb.size); obtain ⟨c0, c1, c2, c3, c4, c5⟩ := hc _ O; clear hx) | (go_at_call 110; (with_reducible refine (HS _).mono ?_); rintro e2 w2 ⟨rfl, hx⟩; have O := O.below hx O.lt; have hb := hb.trans (hx.mono hb.size); obtain ⟨c0, c1, c2, c3, c4, c5⟩ := hc _ O; clear hx) | (go_at_call 111; (with_reducible refine (HO _ hb).mono ?_); rintro e3 w3 ⟨rfl, hx⟩; have O := O.below hx O.lt; have hb := hb.trans (hx.mono hb.size); obtain ⟨c0, c1, c2, c3, c4, c5⟩ := hc _ O; clear hx) | (go_at_call 112; (with_reducible refine (HK _ hb).mono ?_); rintro e4 w4 ⟨rfl, hx⟩; have hb := hb.trans (hx.mono hb.size)))
    go_ret
    exact ⟨rfl, hb⟩
  | true =>
  cases b3 with
  | false =>
    go_enter Tryz.func67, Tryz.ntmps67
    go_wp2_with (first | (refine wpList_guard (by rfl) ?_; refine wpList_loadAll rfl 43 _ rfl w.heap.size 19 A rfl O Tryz.isAgg43 Tryz.sizeOf43 hsz ?_) | (go_at_call 109; (with_reducible refine (HD _).mono ?_); rintro e1 w1 ⟨rfl, hx⟩; have O := O.below hx O.lt; have hb := hb.trans (hx.mono hb.size); obtain ⟨c0, c1, c2, c3, c4, c5⟩ := hc _ O; clear hx) | (go_at_call 110; (with_reducible refine (HS _).mono ?_); rintro e2 w2 ⟨rfl, hx⟩; have O := O.below hx O.lt; have hb := hb.trans (hx.mono hb.size); obtain ⟨c0, c1, c2, c3, c4, c5⟩ := hc _ O; clear hx) | (go_at_call 111; (with_reducible refine (HO _ hb).mono ?_); rintro e3 w3 ⟨rfl, hx⟩; have O := O.below hx O.lt; have hb := hb.trans (hx.mono hb.size); obtain ⟨c0, c1, c2, c3, c4, c5⟩ := hc _ O; clear hx) | (go_at_call 112; (with_reducible refine (HK _ hb).mono ?_); rintro e4 w4 ⟨rfl, hx⟩; have hb := hb.trans (hx.mono hb.size)))
    go_ret
    exact ⟨rfl, hb⟩
  | true =>
  cases b4 with
  | false =>
    go_enter Tryz.func67, Tryz.ntmps67
    go_wp2_with (first | (refine wpList_guard (by rfl) ?_; refine wpList_loadAll rfl 43 _ rfl w.heap.size 19 A rfl O Tryz.isAgg43 Tryz.sizeOf43 hsz ?_) | (go_at_call 109; (with_reducible refine (HD _).mono ?_); rintro e1 w1 ⟨rfl, hx⟩; have O := O.below hx O.lt; have hb := hb.trans (hx.mono hb.size); obtain ⟨c0, c1, c2, c3, c4, c5⟩ := hc _ O; clear hx) | (go_at_call 110; (with_reducible refine (HS _).mono ?_); rintro e2 w2 ⟨rfl, hx⟩; have O := O.below hx O.lt; have hb := hb.trans (hx.mono hb.size); obtain ⟨c0, c1, c2, c3, c4, c5⟩ := hc _ O; clear hx) | (go_at_call 111; (with_reducible refine (HO _ hb).mono ?_); rintro e3 w3 ⟨rfl, hx⟩; have O := O.below hx O.lt; have hb := hb.trans (hx.mono hb.size); obtain ⟨c0, c1, c2, c3, c4, c5⟩ := hc _ O; clear hx) | (go_at_call 112; (with_reducible refine (HK _ hb).mono ?_); rintro e4 w4 ⟨rfl, hx⟩; have hb := hb.trans (hx.mono hb.size)))
    go_ret
    exact ⟨rfl, hb⟩
  | true =>
  go_enter Tryz.func67, Tryz.ntmps67
  go_wp2_with (first | (refine wpList_guard (by rfl) ?_; refine wpList_loadAll rfl 43 _ rfl w.heap.size 19 A rfl O Tryz.isAgg43 Tryz.sizeOf43 hsz ?_) | (go_at_call 109; (with_reducible refine (HD _).mono ?_); rintro e1 w1 ⟨rfl, hx⟩; have O := O.below hx O.lt; have hb := hb.trans (hx.mono hb.size); obtain ⟨c0, c1, c2, c3, c4, c5⟩ := hc _ O; clear hx) | (go_at_call 110; (with_reducible refine (HS _).mono ?_); rintro e2 w2 ⟨rfl, hx⟩; have O := O.below hx O.lt; have hb := hb.trans (hx.mono hb.size); obtain ⟨c0, c1, c2, c3, c4, c5⟩ := hc _ O; clear hx) | (go_at_call 111; (with_reducible refine (HO _ hb).mono ?_); rintro e3 w3 ⟨rfl, hx⟩; have O := O.below hx O.lt; have hb := hb.trans (hx.mono hb.size); obtain ⟨c0, c1, c2, c3, c4, c5⟩ := hc _ O; clear hx) | (go_at_call 112; (with_reducible refine (HK _ hb).mono ?_); rintro e4 w4 ⟨rfl, hx⟩; have hb := hb.trans (hx.mono hb.size)))
  go_ret
  exact ⟨rfl, hb⟩
end Go.Proofs.YtaodjnkjjmhecaaGreatDoor
