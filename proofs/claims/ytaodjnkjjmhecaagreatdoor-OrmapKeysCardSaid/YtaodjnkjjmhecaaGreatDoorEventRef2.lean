/- Contracts and plain words that the laws' proofs stand on. -/
import Derived.Test.YtaodjnkjjmhecaaGreatDoorShort
import Derived.Test.YtaodjnkjjmhecaaGreatDoorLibAB
namespace Go.Proofs.YtaodjnkjjmhecaaGreatDoor
open Go.RowKit
set_option linter.unusedVariables false
set_option linter.unusedSimpArgs false
theorem same_like (x y : ItemL) : sameI x y = (sameKey x y && likeC x y) := by
  rw [Bool.eq_iff_iff, sameI_iff, sameKC_iff]
theorem eqItemZ (x : ItemL) (w : World) :
    Sem.run Tryz.prog (Op.equalIn 10000 156 (.agg #[.string (str x.name), .string (str x.dom), .string (str x.path), .string (str x.val), .bool x.host, .bool x.sec, .bool x.http, .bool x.pers, .int .i64 x.exp, .int .i64 x.made, .int .i64 x.used]) (.agg #[.string ⟨#[]⟩, .string ⟨#[]⟩, .string ⟨#[]⟩, .string ⟨#[]⟩, .bool false, .bool false, .bool false, .bool false, .int .i64 0, .int .i64 0, .int .i64 0])) w = Result.ok (sameKey x ItemL.none && likeC x ItemL.none) w := by
  rw [← same_like]
  exact eqItem2 x ItemL.none w
structure StR (w : World) (e : EventN) (a : Option Addr) (n c : Nat) (v : World) : Prop where
  o : ObjAt v w.heap.size [.int .i64 e.dot.dev, .int .i64 e.dot.inc, .int .i64 e.dot.seq, .int .i64 e.stamp.wall, .int .i64 e.stamp.count, .int .i64 e.stamp.dev, .int .i64 e.kind, .string (str e.item.name), .string (str e.item.dom), .string (str e.item.path), .string (str e.item.val), .bool e.item.host, .bool e.item.sec, .bool e.item.http, .bool e.item.pers, .int .i64 e.item.exp, .int .i64 e.item.made, .int .i64 e.item.used, .slice a n c]
  row : RowOf encD 3 v a n c e.over
  hb : Below w.heap.size w v
theorem StR.below {w v v' : World} {e : EventN} {a : Option Addr} {n c : Nat} (h : StR w e a n c v) (hx : Below v.heap.size v v') : StR w e a n c v' :=
  ⟨h.o.below hx h.o.lt, h.row.below hx, h.hb.trans (hx.mono h.hb.size)⟩
set_option maxHeartbeats 4000000 in
set_option maxRecDepth 100000 in
theorem refERightC (e : EventN) (a : Option Addr) (n c : Nat) (w : World) (h : RowOf encD 3 w a n c e.over)
    (HX : ∀ v, Calls Tryz.prog 108 #[.agg #[.string (str e.item.name), .string (str e.item.dom), .string (str e.item.path), .string (str e.item.val), .bool e.item.host, .bool e.item.sec, .bool e.item.http, .bool e.item.pers, .int .i64 e.item.exp, .int .i64 e.item.made, .int .i64 e.item.used]] v fun en w' => en = .returned (.bool (rightX e.item)) ∧ Below v.heap.size v w') :
    Calls Tryz.prog 62 #[.agg #[.int .i64 e.dot.dev, .int .i64 e.dot.inc, .int .i64 e.dot.seq, .int .i64 e.stamp.wall, .int .i64 e.stamp.count, .int .i64 e.stamp.dev, .int .i64 e.kind, .string (str e.item.name), .string (str e.item.dom), .string (str e.item.path), .string (str e.item.val), .bool e.item.host, .bool e.item.sec, .bool e.item.http, .bool e.item.pers, .int .i64 e.item.exp, .int .i64 e.item.made, .int .i64 e.item.used, .slice a n c]] w fun en w' => en = .returned (.bool (rightE e)) ∧ Below w.heap.size w w' := by
  have hb := below_alloc w (.cells #[.int .i64 e.dot.dev, .int .i64 e.dot.inc, .int .i64 e.dot.seq, .int .i64 e.stamp.wall, .int .i64 e.stamp.count, .int .i64 e.stamp.dev, .int .i64 e.kind, .string (str e.item.name), .string (str e.item.dom), .string (str e.item.path), .string (str e.item.val), .bool e.item.host, .bool e.item.sec, .bool e.item.http, .bool e.item.pers, .int .i64 e.item.exp, .int .i64 e.item.made, .int .i64 e.item.used, .slice a n c] 43)
  have o1 := ObjAt.new w #[.int .i64 e.dot.dev, .int .i64 e.dot.inc, .int .i64 e.dot.seq, .int .i64 e.stamp.wall, .int .i64 e.stamp.count, .int .i64 e.stamp.dev, .int .i64 e.kind, .string (str e.item.name), .string (str e.item.dom), .string (str e.item.path), .string (str e.item.val), .bool e.item.host, .bool e.item.sec, .bool e.item.http, .bool e.item.pers, .int .i64 e.item.exp, .int .i64 e.item.made, .int .i64 e.item.used, .slice a n c] 43
  generalize hv : w.alloc (.cells #[.int .i64 e.dot.dev, .int .i64 e.dot.inc, .int .i64 e.dot.seq, .int .i64 e.stamp.wall, .int .i64 e.stamp.count, .int .i64 e.stamp.dev, .int .i64 e.kind, .string (str e.item.name), .string (str e.item.dom), .string (str e.item.path), .string (str e.item.val), .bool e.item.host, .bool e.item.sec, .bool e.item.http, .bool e.item.pers, .int .i64 e.item.exp, .int .i64 e.item.made, .int .i64 e.item.used, .slice a n c] 43) = v at *
  have hS : StR w e a n c v := ⟨o1, h.below hb, hb⟩
  have hn := h.leq
  have hcm := h.capm
  have hcl := h.cle
  unfold maxLen at hcm
  have HD := fun v => refDRightC e.dot v
  have HT := fun v => refTRightC e.stamp v
  unfold valT at HT
  have u0 := hS.o.cell 0 rfl; have u1 := hS.o.cell 1 rfl; have u2 := hS.o.cell 2 rfl; have u3 := hS.o.cell 3 rfl; have u4 := hS.o.cell 4 rfl; have u5 := hS.o.cell 5 rfl; have u6 := hS.o.cell 6 rfl; have u7 := hS.o.cell 7 rfl; have u8 := hS.o.cell 8 rfl; have u9 := hS.o.cell 9 rfl; have u10 := hS.o.cell 10 rfl; have u11 := hS.o.cell 11 rfl; have u12 := hS.o.cell 12 rfl; have u13 := hS.o.cell 13 rfl; have u14 := hS.o.cell 14 rfl; have u15 := hS.o.cell 15 rfl; have u16 := hS.o.cell 16 rfl; have u17 := hS.o.cell 17 rfl; have u18 := hS.o.cell 18 rfl
  clear h hb o1
  cases hb1 : rightD e.dot with
  | false =>
    rw [hb1] at HD
    have E : rightE e = false := by unfold rightE headE; simp [hb1]
    rw [E]
    clear E HX
    go_enter Tryz.func62, Tryz.ntmps62
    go_wp2_with (first | (go_at_call 86; (with_reducible refine (HD _).mono ?_); rintro e1 w1 ⟨rfl, hx⟩; have hS := hS.below hx; have u0 := hS.o.cell 0 rfl; have u1 := hS.o.cell 1 rfl; have u2 := hS.o.cell 2 rfl; have u3 := hS.o.cell 3 rfl; have u4 := hS.o.cell 4 rfl; have u5 := hS.o.cell 5 rfl; have u6 := hS.o.cell 6 rfl; have u7 := hS.o.cell 7 rfl; have u8 := hS.o.cell 8 rfl; have u9 := hS.o.cell 9 rfl; have u10 := hS.o.cell 10 rfl; have u11 := hS.o.cell 11 rfl; have u12 := hS.o.cell 12 rfl; have u13 := hS.o.cell 13 rfl; have u14 := hS.o.cell 14 rfl; have u15 := hS.o.cell 15 rfl; have u16 := hS.o.cell 16 rfl; have u17 := hS.o.cell 17 rfl; have u18 := hS.o.cell 18 rfl; clear hx) | (go_at_call 107; (with_reducible refine (HT _).mono ?_); rintro e2 w2 ⟨rfl, hx⟩; have hS := hS.below hx; have u0 := hS.o.cell 0 rfl; have u1 := hS.o.cell 1 rfl; have u2 := hS.o.cell 2 rfl; have u3 := hS.o.cell 3 rfl; have u4 := hS.o.cell 4 rfl; have u5 := hS.o.cell 5 rfl; have u6 := hS.o.cell 6 rfl; have u7 := hS.o.cell 7 rfl; have u8 := hS.o.cell 8 rfl; have u9 := hS.o.cell 9 rfl; have u10 := hS.o.cell 10 rfl; have u11 := hS.o.cell 11 rfl; have u12 := hS.o.cell 12 rfl; have u13 := hS.o.cell 13 rfl; have u14 := hS.o.cell 14 rfl; have u15 := hS.o.cell 15 rfl; have u16 := hS.o.cell 16 rfl; have u17 := hS.o.cell 17 rfl; have u18 := hS.o.cell 18 rfl; clear hx))
    go_ret
    exact ⟨rfl, hS.hb⟩
  | true =>
  cases hb2 : rightT e.stamp with
  | false =>
    rw [hb1] at HD
    rw [hb2] at HT
    have E : rightE e = false := by unfold rightE headE; simp [hb2]
    rw [E]
    clear E HX
    go_enter Tryz.func62, Tryz.ntmps62
    go_wp2_with (first | (go_at_call 86; (with_reducible refine (HD _).mono ?_); rintro e1 w1 ⟨rfl, hx⟩; have hS := hS.below hx; have u0 := hS.o.cell 0 rfl; have u1 := hS.o.cell 1 rfl; have u2 := hS.o.cell 2 rfl; have u3 := hS.o.cell 3 rfl; have u4 := hS.o.cell 4 rfl; have u5 := hS.o.cell 5 rfl; have u6 := hS.o.cell 6 rfl; have u7 := hS.o.cell 7 rfl; have u8 := hS.o.cell 8 rfl; have u9 := hS.o.cell 9 rfl; have u10 := hS.o.cell 10 rfl; have u11 := hS.o.cell 11 rfl; have u12 := hS.o.cell 12 rfl; have u13 := hS.o.cell 13 rfl; have u14 := hS.o.cell 14 rfl; have u15 := hS.o.cell 15 rfl; have u16 := hS.o.cell 16 rfl; have u17 := hS.o.cell 17 rfl; have u18 := hS.o.cell 18 rfl; clear hx) | (go_at_call 107; (with_reducible refine (HT _).mono ?_); rintro e2 w2 ⟨rfl, hx⟩; have hS := hS.below hx; have u0 := hS.o.cell 0 rfl; have u1 := hS.o.cell 1 rfl; have u2 := hS.o.cell 2 rfl; have u3 := hS.o.cell 3 rfl; have u4 := hS.o.cell 4 rfl; have u5 := hS.o.cell 5 rfl; have u6 := hS.o.cell 6 rfl; have u7 := hS.o.cell 7 rfl; have u8 := hS.o.cell 8 rfl; have u9 := hS.o.cell 9 rfl; have u10 := hS.o.cell 10 rfl; have u11 := hS.o.cell 11 rfl; have u12 := hS.o.cell 12 rfl; have u13 := hS.o.cell 13 rfl; have u14 := hS.o.cell 14 rfl; have u15 := hS.o.cell 15 rfl; have u16 := hS.o.cell 16 rfl; have u17 := hS.o.cell 17 rfl; have u18 := hS.o.cell 18 rfl; clear hx))
    go_ret
    exact ⟨rfl, hS.hb⟩
  | true =>
  rw [hb1] at HD
  rw [hb2] at HT
  by_cases q3 : e.stamp.dev = e.dot.dev
  · obtain ⟨⟨d, i, sq⟩, ⟨wl, ct, sd⟩, kd, it, ov⟩ := e
    dsimp only at *
    subst q3
    by_cases q4 : 64 < n
    · have q4b : (64 : Int) < (n : Int) := by omega
      have E : rightE ⟨⟨sd, i, sq⟩, ⟨wl, ct, sd⟩, kd, it, ov⟩ = false := by unfold rightE headE; simp [hn]; omega
      rw [E]
      clear E HX
      go_enter Tryz.func62, Tryz.ntmps62
      go_wp2_with (first | (go_at_call 86; (with_reducible refine (HD _).mono ?_); rintro e1 w1 ⟨rfl, hx⟩; have hS := hS.below hx; have u0 := hS.o.cell 0 rfl; have u1 := hS.o.cell 1 rfl; have u2 := hS.o.cell 2 rfl; have u3 := hS.o.cell 3 rfl; have u4 := hS.o.cell 4 rfl; have u5 := hS.o.cell 5 rfl; have u6 := hS.o.cell 6 rfl; have u7 := hS.o.cell 7 rfl; have u8 := hS.o.cell 8 rfl; have u9 := hS.o.cell 9 rfl; have u10 := hS.o.cell 10 rfl; have u11 := hS.o.cell 11 rfl; have u12 := hS.o.cell 12 rfl; have u13 := hS.o.cell 13 rfl; have u14 := hS.o.cell 14 rfl; have u15 := hS.o.cell 15 rfl; have u16 := hS.o.cell 16 rfl; have u17 := hS.o.cell 17 rfl; have u18 := hS.o.cell 18 rfl; clear hx) | (go_at_call 107; (with_reducible refine (HT _).mono ?_); rintro e2 w2 ⟨rfl, hx⟩; have hS := hS.below hx; have u0 := hS.o.cell 0 rfl; have u1 := hS.o.cell 1 rfl; have u2 := hS.o.cell 2 rfl; have u3 := hS.o.cell 3 rfl; have u4 := hS.o.cell 4 rfl; have u5 := hS.o.cell 5 rfl; have u6 := hS.o.cell 6 rfl; have u7 := hS.o.cell 7 rfl; have u8 := hS.o.cell 8 rfl; have u9 := hS.o.cell 9 rfl; have u10 := hS.o.cell 10 rfl; have u11 := hS.o.cell 11 rfl; have u12 := hS.o.cell 12 rfl; have u13 := hS.o.cell 13 rfl; have u14 := hS.o.cell 14 rfl; have u15 := hS.o.cell 15 rfl; have u16 := hS.o.cell 16 rfl; have u17 := hS.o.cell 17 rfl; have u18 := hS.o.cell 18 rfl; clear hx))
      go_ret
      exact ⟨rfl, hS.hb⟩
    · have q4b : ¬ (64 : Int) < (n : Int) := by omega
      have E : Hid (rightE ⟨⟨sd, i, sq⟩, ⟨wl, ct, sd⟩, kd, it, ov⟩ = ((List.range n).all (okO ov ⟨sd, i, sq⟩) && kindE ⟨⟨sd, i, sq⟩, ⟨wl, ct, sd⟩, kd, it, ov⟩)) := by
        unfold Hid rightE headE
        dsimp only
        rw [hb1, hb2, hn, decide_eq_true (by omega : n ≤ 64)]
        simp
      go_enter Tryz.func62, Tryz.ntmps62
      go_wp2_with (first | (go_at_call 86; (with_reducible refine (HD _).mono ?_); rintro e1 w1 ⟨rfl, hx⟩; have hS := hS.below hx; have u0 := hS.o.cell 0 rfl; have u1 := hS.o.cell 1 rfl; have u2 := hS.o.cell 2 rfl; have u3 := hS.o.cell 3 rfl; have u4 := hS.o.cell 4 rfl; have u5 := hS.o.cell 5 rfl; have u6 := hS.o.cell 6 rfl; have u7 := hS.o.cell 7 rfl; have u8 := hS.o.cell 8 rfl; have u9 := hS.o.cell 9 rfl; have u10 := hS.o.cell 10 rfl; have u11 := hS.o.cell 11 rfl; have u12 := hS.o.cell 12 rfl; have u13 := hS.o.cell 13 rfl; have u14 := hS.o.cell 14 rfl; have u15 := hS.o.cell 15 rfl; have u16 := hS.o.cell 16 rfl; have u17 := hS.o.cell 17 rfl; have u18 := hS.o.cell 18 rfl; clear hx) | (go_at_call 107; (with_reducible refine (HT _).mono ?_); rintro e2 w2 ⟨rfl, hx⟩; have hS := hS.below hx; have u0 := hS.o.cell 0 rfl; have u1 := hS.o.cell 1 rfl; have u2 := hS.o.cell 2 rfl; have u3 := hS.o.cell 3 rfl; have u4 := hS.o.cell 4 rfl; have u5 := hS.o.cell 5 rfl; have u6 := hS.o.cell 6 rfl; have u7 := hS.o.cell 7 rfl; have u8 := hS.o.cell 8 rfl; have u9 := hS.o.cell 9 rfl; have u10 := hS.o.cell 10 rfl; have u11 := hS.o.cell 11 rfl; have u12 := hS.o.cell 12 rfl; have u13 := hS.o.cell 13 rfl; have u14 := hS.o.cell 14 rfl; have u15 := hS.o.cell 15 rfl; have u16 := hS.o.cell 16 rfl; have u17 := hS.o.cell 17 rfl; have u18 := hS.o.cell 18 rfl; clear hx))
      go_loopw [3] (fun q wr => ∃ k : Nat, k ≤ n ∧ q = .int .i64 (k : Int) ∧ Hid (∀ j, j < k → okO ov ⟨sd, i, sq⟩ j = true) ∧ StR w ⟨⟨sd, i, sq⟩, ⟨wl, ct, sd⟩, kd, it, ov⟩ a n c wr) (fun q _ => n - (intOf q).toNat)
      case atStart => exact ⟨0, Nat.zero_le _, rfl, fun j hj => absurd hj (Nat.not_lt_zero _), hS⟩
      case round =>
        obtain ⟨k, hk, rfl, hall, hS⟩ := hrel
        by_cases hlt : k < n
        · have hlt' : (k : Int) < (n : Int) := by omega
          rcases Nat.eq_zero_or_pos k with hk0 | hk0
          · subst hk0
            obtain ⟨x, g, off, hx, rfl, d0, d1, d2⟩ := dot_at hS.row 0 hlt
            simp only [Nat.zero_mul, Nat.add_zero] at d0 d1 d2
            have hget : ov.getD 0 ⟨0, 0, 0⟩ = x := by rw [List.getD_eq_getElem?_getD, hx]; rfl
            have HRx := fun v => refDRightC x v
            have hyes : Hid (okO ov ⟨sd, i, sq⟩ 0 = true → ∀ j, j < 0 + 1 → okO ov ⟨sd, i, sq⟩ j = true) := fun h j hj => by
              by_cases hjk : j = 0
              · rw [hjk]; exact h
              · exact hall.out j (by omega)
            have hno : Hid (okO ov ⟨sd, i, sq⟩ 0 = false → (List.range n).all (okO ov ⟨sd, i, sq⟩) = false) := fun h => by
              rw [List.all_eq_false]
              exact ⟨0, List.mem_range.2 hlt, by rw [h]; exact Bool.false_ne_true⟩
            have u0 := hS.o.cell 0 rfl; have u1 := hS.o.cell 1 rfl; have u2 := hS.o.cell 2 rfl; have u3 := hS.o.cell 3 rfl; have u4 := hS.o.cell 4 rfl; have u5 := hS.o.cell 5 rfl; have u6 := hS.o.cell 6 rfl; have u7 := hS.o.cell 7 rfl; have u8 := hS.o.cell 8 rfl; have u9 := hS.o.cell 9 rfl; have u10 := hS.o.cell 10 rfl; have u11 := hS.o.cell 11 rfl; have u12 := hS.o.cell 12 rfl; have u13 := hS.o.cell 13 rfl; have u14 := hS.o.cell 14 rfl; have u15 := hS.o.cell 15 rfl; have u16 := hS.o.cell 16 rfl; have u17 := hS.o.cell 17 rfl; have u18 := hS.o.cell 18 rfl
            have y3 := below_alloc wr (.cells #[.int .i64 x.dev, .int .i64 x.inc, .int .i64 x.seq] 35)
            have ox := ObjAt.new wr #[.int .i64 x.dev, .int .i64 x.inc, .int .i64 x.seq] 35
            have hS3 := hS.below y3
            go_wp2
            generalize hw3 : wr.alloc (.cells #[.int .i64 x.dev, .int .i64 x.inc, .int .i64 x.seq] 35) = w3 at *
            have hS0 : ∀ w', Below w3.heap.size w3 w' → w'.cell? ⟨wr.heap.size, 0, none⟩ = some (.int .i64 x.dev) ∧ w'.cell? ⟨wr.heap.size, 1, none⟩ = some (.int .i64 x.inc) ∧ w'.cell? ⟨wr.heap.size, 2, none⟩ = some (.int .i64 x.seq) ∧ w'.cell? ⟨w.heap.size, 0, none⟩ = some (.int .i64 sd) ∧ w'.cell? ⟨w.heap.size, 1, none⟩ = some (.int .i64 i) ∧ w'.cell? ⟨w.heap.size, 2, none⟩ = some (.int .i64 sq) ∧ w'.cell? ⟨w.heap.size, 18, none⟩ = some (.slice (some ⟨g, off, none⟩) n c) := fun w' h => ⟨(ox.below h ox.lt).cell 0 rfl, (ox.below h ox.lt).cell 1 rfl, (ox.below h ox.lt).cell 2 rfl, (hS3.below h).o.cell 0 rfl, (hS3.below h).o.cell 1 rfl, (hS3.below h).o.cell 2 rfl, (hS3.below h).o.cell 18 rfl⟩
            have hB1 : Below w3.heap.size w3 w3.drew := (Below.refl _ w3).drew
            cases hr : rightD x with
            | false =>
              rw [hr] at HRx
              have hok : Hid (okO ov ⟨sd, i, sq⟩ 0 = false) := by unfold Hid okO; rw [hget]; rw [hr]; rfl
              refine wp_region_held_drew (S := fun w' => w'.cell? ⟨wr.heap.size, 0, none⟩ = some (.int .i64 x.dev) ∧ w'.cell? ⟨wr.heap.size, 1, none⟩ = some (.int .i64 x.inc) ∧ w'.cell? ⟨wr.heap.size, 2, none⟩ = some (.int .i64 x.seq) ∧ w'.cell? ⟨w.heap.size, 0, none⟩ = some (.int .i64 sd) ∧ w'.cell? ⟨w.heap.size, 1, none⟩ = some (.int .i64 i) ∧ w'.cell? ⟨w.heap.size, 2, none⟩ = some (.int .i64 sq) ∧ w'.cell? ⟨w.heap.size, 18, none⟩ = some (.slice (some ⟨g, off, none⟩) n c)) (by kernel_rfl) (hS0 _ hB1) (fun hHeld => ?_)
              first | (refine tR (i := 0) rfl rfl ?_) | (refine tL (i := 0) (v := ?vl1x0) rfl ?hyl1x0 ?rl1x0; case hyl1x0 => (rintro w' ⟨hs0, hs1, hs2, hs3, hs4, hs5, hs6⟩; go_simp; try with_reducible rfl))
              try simp only [gA, gB, Act.put, gD, gE, gF]
              refine wpAnyH_ready (rs := [1]) (by kernel_rfl) (by simp) ?_
              refine AllReadyH.cons (o := _) rfl (fun K hK => ?_) AllReadyH.nil
              go_simp
              go_at_call 86; (with_reducible refine (HRx _).mono ?_); rintro e7 w7 ⟨rfl, hx7⟩; have hB1 := hB1.trans (hx7.mono hB1.size); clear hx7
              dsimp only
              refine hK.out _ _ (hS0 _ hB1) (fun hHeld => ?_)
              clear hK K
              try simp only [gA, gB, gC, Act.put, gD, gE, gF]
              first | (refine tR (i := 2) rfl rfl ?_) | (refine tL (i := 2) (v := ?vl1x2) rfl ?hyl1x2 ?rl1x2; case hyl1x2 => (rintro w' ⟨hs0, hs1, hs2, hs3, hs4, hs5, hs6⟩; go_simp; try with_reducible rfl))
              try simp only [gA, gB, gC, Act.put, gD, gE, gF]
              first | (refine tR (i := 3) rfl rfl ?_) | (refine tL (i := 3) (v := ?vl1x3) rfl ?hyl1x3 ?rl1x3; case hyl1x3 => (rintro w' ⟨hs0, hs1, hs2, hs3, hs4, hs5, hs6⟩; go_simp; try with_reducible rfl))
              try simp only [gA, gB, gC, Act.put, gD, gE, gF]
              first | (refine tR (i := 4) rfl rfl ?_) | (refine tL (i := 4) (v := ?vl1x4) rfl ?hyl1x4 ?rl1x4; case hyl1x4 => (rintro w' ⟨hs0, hs1, hs2, hs3, hs4, hs5, hs6⟩; go_simp; try with_reducible rfl))
              try simp only [gA, gB, gC, Act.put, gD, gE, gF]
              first | (refine tR (i := 5) rfl rfl ?_) | (refine tL (i := 5) (v := ?vl1x5) rfl ?hyl1x5 ?rl1x5; case hyl1x5 => (rintro w' ⟨hs0, hs1, hs2, hs3, hs4, hs5, hs6⟩; go_simp; try with_reducible rfl))
              try simp only [gA, gB, gC, Act.put, gD, gE, gF]
              first | (refine tR (i := 6) rfl rfl ?_) | (refine tL (i := 6) (v := ?vl1x6) rfl ?hyl1x6 ?rl1x6; case hyl1x6 => (rintro w' ⟨hs0, hs1, hs2, hs3, hs4, hs5, hs6⟩; go_simp; try with_reducible rfl))
              try simp only [gA, gB, gC, Act.put, gD, gE, gF]
              first | (refine tR (i := 7) rfl rfl ?_) | (refine tL (i := 7) (v := ?vl1x7) rfl ?hyl1x7 ?rl1x7; case hyl1x7 => (rintro w' ⟨hs0, hs1, hs2, hs3, hs4, hs5, hs6⟩; go_simp; try with_reducible rfl))
              try simp only [gA, gB, gC, Act.put, gD, gE, gF]
              first | (refine tR (i := 8) rfl rfl ?_) | (refine tL (i := 8) (v := ?vl1x8) rfl ?hyl1x8 ?rl1x8; case hyl1x8 => (rintro w' ⟨hs0, hs1, hs2, hs3, hs4, hs5, hs6⟩; go_simp; try with_reducible rfl))
              try simp only [gA, gB, gC, Act.put, gD, gE, gF]
              first | (refine tR (i := 9) rfl rfl ?_) | (refine tL (i := 9) (v := ?vl1x9) rfl ?hyl1x9 ?rl1x9; case hyl1x9 => (rintro w' ⟨hs0, hs1, hs2, hs3, hs4, hs5, hs6⟩; go_simp; try with_reducible rfl))
              try simp only [gA, gB, gC, Act.put, gD, gE, gF]
              first | (refine tR (i := 10) rfl rfl ?_) | (refine tL (i := 10) (v := ?vl1x10) rfl ?hyl1x10 ?rl1x10; case hyl1x10 => (rintro w' ⟨hs0, hs1, hs2, hs3, hs4, hs5, hs6⟩; go_simp; try with_reducible rfl))
              try simp only [gA, gB, gC, Act.put, gD, gE, gF]
              first | (refine tR (i := 11) rfl rfl ?_) | (refine tL (i := 11) (v := ?vl1x11) rfl ?hyl1x11 ?rl1x11; case hyl1x11 => (rintro w' ⟨hs0, hs1, hs2, hs3, hs4, hs5, hs6⟩; go_simp; try with_reducible rfl))
              try simp only [gA, gB, gC, Act.put, gD, gE, gF]
              first | (refine tR (i := 12) rfl rfl ?_) | (refine tL (i := 12) (v := ?vl1x12) rfl ?hyl1x12 ?rl1x12; case hyl1x12 => (rintro w' ⟨hs0, hs1, hs2, hs3, hs4, hs5, hs6⟩; go_simp; try with_reducible rfl))
              try simp only [gA, gB, gC, Act.put, gD, gE, gF]
              first | (refine tR (i := 13) rfl rfl ?_) | (refine tL (i := 13) (v := ?vl1x13) rfl ?hyl1x13 ?rl1x13; case hyl1x13 => (rintro w' ⟨hs0, hs1, hs2, hs3, hs4, hs5, hs6⟩; go_simp; try with_reducible rfl))
              try simp only [gA, gB, gC, Act.put, gD, gE, gF]
              first | (refine tR (i := 14) rfl rfl ?_) | (refine tL (i := 14) (v := ?vl1x14) rfl ?hyl1x14 ?rl1x14; case hyl1x14 => (rintro w' ⟨hs0, hs1, hs2, hs3, hs4, hs5, hs6⟩; go_simp; try with_reducible rfl))
              try simp only [gA, gB, gC, Act.put, gD, gE, gF]
              first | (refine tR (i := 15) rfl rfl ?_) | (refine tL (i := 15) (v := ?vl1x15) rfl ?hyl1x15 ?rl1x15; case hyl1x15 => (rintro w' ⟨hs0, hs1, hs2, hs3, hs4, hs5, hs6⟩; go_simp; try with_reducible rfl))
              try simp only [gA, gB, gC, Act.put, gD, gE, gF]
              first | (refine tR (i := 16) rfl rfl ?_) | (refine tL (i := 16) (v := ?vl1x16) rfl ?hyl1x16 ?rl1x16; case hyl1x16 => (rintro w' ⟨hs0, hs1, hs2, hs3, hs4, hs5, hs6⟩; go_simp; try with_reducible rfl))
              try simp only [gA, gB, gC, Act.put, gD, gE, gF]
              first | (refine tR (i := 17) rfl rfl ?_) | (refine tL (i := 17) (v := ?vl1x17) rfl ?hyl1x17 ?rl1x17; case hyl1x17 => (rintro w' ⟨hs0, hs1, hs2, hs3, hs4, hs5, hs6⟩; go_simp; try with_reducible rfl))
              try simp only [gA, gB, gC, Act.put, gD, gE, gF]
              first | (refine tR (i := 18) rfl rfl ?_) | (refine tL (i := 18) (v := ?vl1x18) rfl ?hyl1x18 ?rl1x18; case hyl1x18 => (rintro w' ⟨hs0, hs1, hs2, hs3, hs4, hs5, hs6⟩; go_simp; try with_reducible rfl))
              try simp only [gA, gB, gC, Act.put, gD, gE, gF]
              first | (refine tR (i := 19) rfl rfl ?_) | (refine tL (i := 19) (v := ?vl1x19) rfl ?hyl1x19 ?rl1x19; case hyl1x19 => (rintro w' ⟨hs0, hs1, hs2, hs3, hs4, hs5, hs6⟩; go_simp; try with_reducible rfl))
              try simp only [gA, gB, gC, Act.put, gD, gE, gF]
              first | (refine tR (i := 20) rfl rfl ?_) | (refine tL (i := 20) (v := ?vl1x20) rfl ?hyl1x20 ?rl1x20; case hyl1x20 => (rintro w' ⟨hs0, hs1, hs2, hs3, hs4, hs5, hs6⟩; go_simp; try with_reducible rfl))
              try simp only [gA, gB, gC, Act.put, gD, gE, gF]
              first | (refine tR (i := 21) rfl rfl ?_) | (refine tL (i := 21) (v := ?vl1x21) rfl ?hyl1x21 ?rl1x21; case hyl1x21 => (rintro w' ⟨hs0, hs1, hs2, hs3, hs4, hs5, hs6⟩; go_simp; try with_reducible rfl))
              try simp only [gA, gB, gC, Act.put, gD, gE, gF]
              first | (refine tR (i := 22) rfl rfl ?_) | (refine tL (i := 22) (v := ?vl1x22) rfl ?hyl1x22 ?rl1x22; case hyl1x22 => (rintro w' ⟨hs0, hs1, hs2, hs3, hs4, hs5, hs6⟩; go_simp; try with_reducible rfl))
              try simp only [gA, gB, gC, Act.put, gD, gE, gF]
              first | (refine tR (i := 23) rfl rfl ?_) | (refine tL (i := 23) (v := ?vl1x23) rfl ?hyl1x23 ?rl1x23; case hyl1x23 => (rintro w' ⟨hs0, hs1, hs2, hs3, hs4, hs5, hs6⟩; go_simp; try with_reducible rfl))
              try simp only [gA, gB, gC, Act.put, gD, gE, gF]
              first | (refine tR (i := 24) rfl rfl ?_) | (refine tL (i := 24) (v := ?vl1x24) rfl ?hyl1x24 ?rl1x24; case hyl1x24 => (rintro w' ⟨hs0, hs1, hs2, hs3, hs4, hs5, hs6⟩; go_simp; try with_reducible rfl))
              try simp only [gA, gB, gC, Act.put, gD, gE, gF]
              first | (refine tR (i := 25) rfl rfl ?_) | (refine tL (i := 25) (v := ?vl1x25) rfl ?hyl1x25 ?rl1x25; case hyl1x25 => (rintro w' ⟨hs0, hs1, hs2, hs3, hs4, hs5, hs6⟩; go_simp; try with_reducible rfl))
              try simp only [gA, gB, gC, Act.put, gD, gE, gF]
              first | (refine tR (i := 26) rfl rfl ?_) | (refine tL (i := 26) (v := ?vl1x26) rfl ?hyl1x26 ?rl1x26; case hyl1x26 => (rintro w' ⟨hs0, hs1, hs2, hs3, hs4, hs5, hs6⟩; go_simp; try with_reducible rfl))
              try simp only [gA, gB, gC, Act.put, gD, gE, gF]
              first | (refine tR (i := 27) rfl rfl ?_) | (refine tL (i := 27) (v := ?vl1x27) rfl ?hyl1x27 ?rl1x27; case hyl1x27 => (rintro w' ⟨hs0, hs1, hs2, hs3, hs4, hs5, hs6⟩; go_simp; try with_reducible rfl))
              try simp only [gA, gB, gC, Act.put, gD, gE, gF]
              first | (refine tR (i := 28) rfl rfl ?_) | (refine tL (i := 28) (v := ?vl1x28) rfl ?hyl1x28 ?rl1x28; case hyl1x28 => (rintro w' ⟨hs0, hs1, hs2, hs3, hs4, hs5, hs6⟩; go_simp; try with_reducible rfl))
              try simp only [gA, gB, gC, Act.put, gD, gE, gF]
              first | (refine tR (i := 29) rfl rfl ?_) | (refine tL (i := 29) (v := ?vl1x29) rfl ?hyl1x29 ?rl1x29; case hyl1x29 => (rintro w' ⟨hs0, hs1, hs2, hs3, hs4, hs5, hs6⟩; go_simp; try with_reducible rfl))
              try simp only [gA, gB, gC, Act.put, gD, gE, gF]
              first | (refine tR (i := 30) rfl rfl ?_) | (refine tL (i := 30) (v := ?vl1x30) rfl ?hyl1x30 ?rl1x30; case hyl1x30 => (rintro w' ⟨hs0, hs1, hs2, hs3, hs4, hs5, hs6⟩; go_simp; try with_reducible rfl))
              try simp only [gA, gB, gC, Act.put, gD, gE, gF]
              first | (refine tR (i := 31) rfl rfl ?_) | (refine tL (i := 31) (v := ?vl1x31) rfl ?hyl1x31 ?rl1x31; case hyl1x31 => (rintro w' ⟨hs0, hs1, hs2, hs3, hs4, hs5, hs6⟩; go_simp; try with_reducible rfl))
              try simp only [gA, gB, gC, Act.put, gD, gE, gF]
              first | (refine tR (i := 32) rfl rfl ?_) | (refine tL (i := 32) (v := ?vl1x32) rfl ?hyl1x32 ?rl1x32; case hyl1x32 => (rintro w' ⟨hs0, hs1, hs2, hs3, hs4, hs5, hs6⟩; go_simp; try with_reducible rfl))
              try simp only [gA, gB, gC, Act.put, gD, gE, gF]
              first | (refine tR (i := 33) rfl rfl ?_) | (refine tL (i := 33) (v := ?vl1x33) rfl ?hyl1x33 ?rl1x33; case hyl1x33 => (rintro w' ⟨hs0, hs1, hs2, hs3, hs4, hs5, hs6⟩; go_simp; try with_reducible rfl))
              try simp only [gA, gB, gC, Act.put, gD, gE, gF]
              refine wpAnyH_done (by kernel_rfl) ?_ _
              all_goals (
                go_wp2
                go_ret
                exact ⟨by rw [E.out, hno.out hok.out]; rfl, (hS3.below hB1).hb⟩)
            | true =>
              rw [hr] at HRx
              cases hA : (x.dev == sd && x.inc == i) with
              | false =>
                have hok : Hid (okO ov ⟨sd, i, sq⟩ 0 = true) := by unfold Hid okO; rw [hget]; rw [hr, hA]; simp
                have hEA := fun v => eqActor x.dev x.inc sd i v
                rw [hA] at hEA
                refine wp_region_held_drew (S := fun w' => w'.cell? ⟨wr.heap.size, 0, none⟩ = some (.int .i64 x.dev) ∧ w'.cell? ⟨wr.heap.size, 1, none⟩ = some (.int .i64 x.inc) ∧ w'.cell? ⟨wr.heap.size, 2, none⟩ = some (.int .i64 x.seq) ∧ w'.cell? ⟨w.heap.size, 0, none⟩ = some (.int .i64 sd) ∧ w'.cell? ⟨w.heap.size, 1, none⟩ = some (.int .i64 i) ∧ w'.cell? ⟨w.heap.size, 2, none⟩ = some (.int .i64 sq) ∧ w'.cell? ⟨w.heap.size, 18, none⟩ = some (.slice (some ⟨g, off, none⟩) n c)) (by kernel_rfl) (hS0 _ hB1) (fun hHeld => ?_)
                first | (refine tR (i := 0) rfl rfl ?_) | (refine tL (i := 0) (v := ?vl2x0) rfl ?hyl2x0 ?rl2x0; case hyl2x0 => (rintro w' ⟨hs0, hs1, hs2, hs3, hs4, hs5, hs6⟩; go_simp; try with_reducible rfl))
                try simp only [gA, gB, Act.put, gD, gE, gF]
                refine wpAnyH_ready (rs := [1]) (by kernel_rfl) (by simp) ?_
                refine AllReadyH.cons (o := _) rfl (fun K hK => ?_) AllReadyH.nil
                go_simp
                go_at_call 86; (with_reducible refine (HRx _).mono ?_); rintro e7 w7 ⟨rfl, hx7⟩; have hB1 := hB1.trans (hx7.mono hB1.size); clear hx7
                dsimp only
                refine hK.out _ _ (hS0 _ hB1) (fun hHeld => ?_)
                clear hK K
                try simp only [gA, gB, gC, Act.put, gD, gE, gF]
                first | (refine tR (i := 2) rfl rfl ?_) | (refine tL (i := 2) (v := ?vl2x2) rfl ?hyl2x2 ?rl2x2; case hyl2x2 => (rintro w' ⟨hs0, hs1, hs2, hs3, hs4, hs5, hs6⟩; go_simp; try with_reducible rfl))
                try simp only [gA, gB, gC, Act.put, gD, gE, gF]
                first | (refine tR (i := 3) rfl rfl ?_) | (refine tL (i := 3) (v := ?vl2x3) rfl ?hyl2x3 ?rl2x3; case hyl2x3 => (rintro w' ⟨hs0, hs1, hs2, hs3, hs4, hs5, hs6⟩; go_simp; try with_reducible rfl))
                try simp only [gA, gB, gC, Act.put, gD, gE, gF]
                first | (refine tR (i := 4) rfl rfl ?_) | (refine tL (i := 4) (v := ?vl2x4) rfl ?hyl2x4 ?rl2x4; case hyl2x4 => (rintro w' ⟨hs0, hs1, hs2, hs3, hs4, hs5, hs6⟩; go_simp; try with_reducible rfl))
                try simp only [gA, gB, gC, Act.put, gD, gE, gF]
                first | (refine tR (i := 5) rfl rfl ?_) | (refine tL (i := 5) (v := ?vl2x5) rfl ?hyl2x5 ?rl2x5; case hyl2x5 => (rintro w' ⟨hs0, hs1, hs2, hs3, hs4, hs5, hs6⟩; go_simp; try with_reducible rfl))
                try simp only [gA, gB, gC, Act.put, gD, gE, gF]
                first | (refine tR (i := 6) rfl rfl ?_) | (refine tL (i := 6) (v := ?vl2x6) rfl ?hyl2x6 ?rl2x6; case hyl2x6 => (rintro w' ⟨hs0, hs1, hs2, hs3, hs4, hs5, hs6⟩; go_simp; try with_reducible rfl))
                try simp only [gA, gB, gC, Act.put, gD, gE, gF]
                first | (refine tR (i := 7) rfl rfl ?_) | (refine tL (i := 7) (v := ?vl2x7) rfl ?hyl2x7 ?rl2x7; case hyl2x7 => (rintro w' ⟨hs0, hs1, hs2, hs3, hs4, hs5, hs6⟩; go_simp; try with_reducible rfl))
                try simp only [gA, gB, gC, Act.put, gD, gE, gF]
                first | (refine tR (i := 8) rfl rfl ?_) | (refine tL (i := 8) (v := ?vl2x8) rfl ?hyl2x8 ?rl2x8; case hyl2x8 => (rintro w' ⟨hs0, hs1, hs2, hs3, hs4, hs5, hs6⟩; go_simp; try with_reducible rfl))
                try simp only [gA, gB, gC, Act.put, gD, gE, gF]
                first | (refine tR (i := 9) rfl rfl ?_) | (refine tL (i := 9) (v := ?vl2x9) rfl ?hyl2x9 ?rl2x9; case hyl2x9 => (rintro w' ⟨hs0, hs1, hs2, hs3, hs4, hs5, hs6⟩; go_simp; try with_reducible rfl))
                try simp only [gA, gB, gC, Act.put, gD, gE, gF]
                first | (refine tR (i := 10) rfl rfl ?_) | (refine tL (i := 10) (v := ?vl2x10) rfl ?hyl2x10 ?rl2x10; case hyl2x10 => (rintro w' ⟨hs0, hs1, hs2, hs3, hs4, hs5, hs6⟩; go_simp; try with_reducible rfl))
                try simp only [gA, gB, gC, Act.put, gD, gE, gF]
                first | (refine tR (i := 11) rfl rfl ?_) | (refine tL (i := 11) (v := ?vl2x11) rfl ?hyl2x11 ?rl2x11; case hyl2x11 => (rintro w' ⟨hs0, hs1, hs2, hs3, hs4, hs5, hs6⟩; go_simp; try with_reducible rfl))
                try simp only [gA, gB, gC, Act.put, gD, gE, gF]
                first | (refine tR (i := 12) rfl rfl ?_) | (refine tL (i := 12) (v := ?vl2x12) rfl ?hyl2x12 ?rl2x12; case hyl2x12 => (rintro w' ⟨hs0, hs1, hs2, hs3, hs4, hs5, hs6⟩; go_simp; try with_reducible rfl))
                try simp only [gA, gB, gC, Act.put, gD, gE, gF]
                first | (refine tR (i := 13) rfl rfl ?_) | (refine tL (i := 13) (v := ?vl2x13) rfl ?hyl2x13 ?rl2x13; case hyl2x13 => (rintro w' ⟨hs0, hs1, hs2, hs3, hs4, hs5, hs6⟩; go_simp; try with_reducible rfl))
                try simp only [gA, gB, gC, Act.put, gD, gE, gF]
                first | (refine tR (i := 14) rfl rfl ?_) | (refine tL (i := 14) (v := ?vl2x14) rfl ?hyl2x14 ?rl2x14; case hyl2x14 => (rintro w' ⟨hs0, hs1, hs2, hs3, hs4, hs5, hs6⟩; go_simp; try with_reducible rfl))
                try simp only [gA, gB, gC, Act.put, gD, gE, gF]
                first | (refine tR (i := 15) rfl rfl ?_) | (refine tL (i := 15) (v := ?vl2x15) rfl ?hyl2x15 ?rl2x15; case hyl2x15 => (rintro w' ⟨hs0, hs1, hs2, hs3, hs4, hs5, hs6⟩; go_simp; try with_reducible rfl))
                try simp only [gA, gB, gC, Act.put, gD, gE, gF]
                first | (refine tR (i := 16) rfl rfl ?_) | (refine tL (i := 16) (v := ?vl2x16) rfl ?hyl2x16 ?rl2x16; case hyl2x16 => (rintro w' ⟨hs0, hs1, hs2, hs3, hs4, hs5, hs6⟩; go_simp; try with_reducible rfl))
                try simp only [gA, gB, gC, Act.put, gD, gE, gF]
                first | (refine tR (i := 17) rfl rfl ?_) | (refine tL (i := 17) (v := ?vl2x17) rfl ?hyl2x17 ?rl2x17; case hyl2x17 => (rintro w' ⟨hs0, hs1, hs2, hs3, hs4, hs5, hs6⟩; go_simp; try with_reducible rfl))
                try simp only [gA, gB, gC, Act.put, gD, gE, gF]
                first | (refine tR (i := 18) rfl rfl ?_) | (refine tL (i := 18) (v := ?vl2x18) rfl ?hyl2x18 ?rl2x18; case hyl2x18 => (rintro w' ⟨hs0, hs1, hs2, hs3, hs4, hs5, hs6⟩; go_simp; try with_reducible rfl))
                try simp only [gA, gB, gC, Act.put, gD, gE, gF]
                first | (refine tR (i := 19) rfl rfl ?_) | (refine tL (i := 19) (v := ?vl2x19) rfl ?hyl2x19 ?rl2x19; case hyl2x19 => (rintro w' ⟨hs0, hs1, hs2, hs3, hs4, hs5, hs6⟩; go_simp; try with_reducible rfl))
                try simp only [gA, gB, gC, Act.put, gD, gE, gF]
                first | (refine tR (i := 20) rfl rfl ?_) | (refine tL (i := 20) (v := ?vl2x20) rfl ?hyl2x20 ?rl2x20; case hyl2x20 => (rintro w' ⟨hs0, hs1, hs2, hs3, hs4, hs5, hs6⟩; go_simp; try with_reducible rfl))
                try simp only [gA, gB, gC, Act.put, gD, gE, gF]
                first | (refine tR (i := 21) rfl rfl ?_) | (refine tL (i := 21) (v := ?vl2x21) rfl ?hyl2x21 ?rl2x21; case hyl2x21 => (rintro w' ⟨hs0, hs1, hs2, hs3, hs4, hs5, hs6⟩; go_simp; try with_reducible rfl))
                try simp only [gA, gB, gC, Act.put, gD, gE, gF]
                first | (refine tR (i := 22) rfl rfl ?_) | (refine tL (i := 22) (v := ?vl2x22) rfl ?hyl2x22 ?rl2x22; case hyl2x22 => (rintro w' ⟨hs0, hs1, hs2, hs3, hs4, hs5, hs6⟩; go_simp; try with_reducible rfl))
                try simp only [gA, gB, gC, Act.put, gD, gE, gF]
                first | (refine tR (i := 23) rfl rfl ?_) | (refine tL (i := 23) (v := ?vl2x23) rfl ?hyl2x23 ?rl2x23; case hyl2x23 => (rintro w' ⟨hs0, hs1, hs2, hs3, hs4, hs5, hs6⟩; go_simp; try with_reducible rfl))
                try simp only [gA, gB, gC, Act.put, gD, gE, gF]
                first | (refine tR (i := 24) rfl rfl ?_) | (refine tL (i := 24) (v := ?vl2x24) rfl ?hyl2x24 ?rl2x24; case hyl2x24 => (rintro w' ⟨hs0, hs1, hs2, hs3, hs4, hs5, hs6⟩; go_simp; try with_reducible rfl))
                try simp only [gA, gB, gC, Act.put, gD, gE, gF]
                first | (refine tR (i := 25) rfl rfl ?_) | (refine tL (i := 25) (v := ?vl2x25) rfl ?hyl2x25 ?rl2x25; case hyl2x25 => (rintro w' ⟨hs0, hs1, hs2, hs3, hs4, hs5, hs6⟩; go_simp; try with_reducible rfl))
                try simp only [gA, gB, gC, Act.put, gD, gE, gF]
                first | (refine tR (i := 26) rfl rfl ?_) | (refine tL (i := 26) (v := ?vl2x26) rfl ?hyl2x26 ?rl2x26; case hyl2x26 => (rintro w' ⟨hs0, hs1, hs2, hs3, hs4, hs5, hs6⟩; go_simp; try with_reducible rfl))
                try simp only [gA, gB, gC, Act.put, gD, gE, gF]
                first | (refine tR (i := 27) rfl rfl ?_) | (refine tL (i := 27) (v := ?vl2x27) rfl ?hyl2x27 ?rl2x27; case hyl2x27 => (rintro w' ⟨hs0, hs1, hs2, hs3, hs4, hs5, hs6⟩; go_simp; try with_reducible rfl))
                try simp only [gA, gB, gC, Act.put, gD, gE, gF]
                first | (refine tR (i := 28) rfl rfl ?_) | (refine tL (i := 28) (v := ?vl2x28) rfl ?hyl2x28 ?rl2x28; case hyl2x28 => (rintro w' ⟨hs0, hs1, hs2, hs3, hs4, hs5, hs6⟩; go_simp; try with_reducible rfl))
                try simp only [gA, gB, gC, Act.put, gD, gE, gF]
                first | (refine tR (i := 29) rfl rfl ?_) | (refine tL (i := 29) (v := ?vl2x29) rfl ?hyl2x29 ?rl2x29; case hyl2x29 => (rintro w' ⟨hs0, hs1, hs2, hs3, hs4, hs5, hs6⟩; go_simp; try with_reducible rfl))
                try simp only [gA, gB, gC, Act.put, gD, gE, gF]
                first | (refine tR (i := 30) rfl rfl ?_) | (refine tL (i := 30) (v := ?vl2x30) rfl ?hyl2x30 ?rl2x30; case hyl2x30 => (rintro w' ⟨hs0, hs1, hs2, hs3, hs4, hs5, hs6⟩; go_simp; try with_reducible rfl))
                try simp only [gA, gB, gC, Act.put, gD, gE, gF]
                first | (refine tR (i := 31) rfl rfl ?_) | (refine tL (i := 31) (v := ?vl2x31) rfl ?hyl2x31 ?rl2x31; case hyl2x31 => (rintro w' ⟨hs0, hs1, hs2, hs3, hs4, hs5, hs6⟩; go_simp; try with_reducible rfl))
                try simp only [gA, gB, gC, Act.put, gD, gE, gF]
                first | (refine tR (i := 32) rfl rfl ?_) | (refine tL (i := 32) (v := ?vl2x32) rfl ?hyl2x32 ?rl2x32; case hyl2x32 => (rintro w' ⟨hs0, hs1, hs2, hs3, hs4, hs5, hs6⟩; go_simp; try with_reducible rfl))
                try simp only [gA, gB, gC, Act.put, gD, gE, gF]
                first | (refine tR (i := 33) rfl rfl ?_) | (refine tL (i := 33) (v := ?vl2x33) rfl ?hyl2x33 ?rl2x33; case hyl2x33 => (rintro w' ⟨hs0, hs1, hs2, hs3, hs4, hs5, hs6⟩; go_simp; try with_reducible rfl))
                try simp only [gA, gB, gC, Act.put, gD, gE, gF]
                refine wpAnyH_done (by kernel_rfl) ?_ _
                all_goals (
                  go_wp2
                  go_roundw
                  case rel => exact ⟨0 + 1, by omega, by go_num, hyes.out hok.out, hS3.below hB1⟩
                  case measure => simp [intOf]; omega)
              | true =>
                have hEA := fun v => eqActor x.dev x.inc sd i v
                rw [hA] at hEA
                by_cases hG : sq ≤ x.seq
                · have hok : Hid (okO ov ⟨sd, i, sq⟩ 0 = false) := by unfold Hid okO; rw [hget]; rw [hr, hA, decide_eq_true hG]; simp
                  refine wp_region_held_drew (S := fun w' => w'.cell? ⟨wr.heap.size, 0, none⟩ = some (.int .i64 x.dev) ∧ w'.cell? ⟨wr.heap.size, 1, none⟩ = some (.int .i64 x.inc) ∧ w'.cell? ⟨wr.heap.size, 2, none⟩ = some (.int .i64 x.seq) ∧ w'.cell? ⟨w.heap.size, 0, none⟩ = some (.int .i64 sd) ∧ w'.cell? ⟨w.heap.size, 1, none⟩ = some (.int .i64 i) ∧ w'.cell? ⟨w.heap.size, 2, none⟩ = some (.int .i64 sq) ∧ w'.cell? ⟨w.heap.size, 18, none⟩ = some (.slice (some ⟨g, off, none⟩) n c)) (by kernel_rfl) (hS0 _ hB1) (fun hHeld => ?_)
                  first | (refine tR (i := 0) rfl rfl ?_) | (refine tL (i := 0) (v := ?vl3x0) rfl ?hyl3x0 ?rl3x0; case hyl3x0 => (rintro w' ⟨hs0, hs1, hs2, hs3, hs4, hs5, hs6⟩; go_simp; try with_reducible rfl))
                  try simp only [gA, gB, Act.put, gD, gE, gF]
                  refine wpAnyH_ready (rs := [1]) (by kernel_rfl) (by simp) ?_
                  refine AllReadyH.cons (o := _) rfl (fun K hK => ?_) AllReadyH.nil
                  go_simp
                  go_at_call 86; (with_reducible refine (HRx _).mono ?_); rintro e7 w7 ⟨rfl, hx7⟩; have hB1 := hB1.trans (hx7.mono hB1.size); clear hx7
                  dsimp only
                  refine hK.out _ _ (hS0 _ hB1) (fun hHeld => ?_)
                  clear hK K
                  try simp only [gA, gB, gC, Act.put, gD, gE, gF]
                  first | (refine tR (i := 2) rfl rfl ?_) | (refine tL (i := 2) (v := ?vl3x2) rfl ?hyl3x2 ?rl3x2; case hyl3x2 => (rintro w' ⟨hs0, hs1, hs2, hs3, hs4, hs5, hs6⟩; go_simp; try with_reducible rfl))
                  try simp only [gA, gB, gC, Act.put, gD, gE, gF]
                  first | (refine tR (i := 3) rfl rfl ?_) | (refine tL (i := 3) (v := ?vl3x3) rfl ?hyl3x3 ?rl3x3; case hyl3x3 => (rintro w' ⟨hs0, hs1, hs2, hs3, hs4, hs5, hs6⟩; go_simp; try with_reducible rfl))
                  try simp only [gA, gB, gC, Act.put, gD, gE, gF]
                  first | (refine tR (i := 4) rfl rfl ?_) | (refine tL (i := 4) (v := ?vl3x4) rfl ?hyl3x4 ?rl3x4; case hyl3x4 => (rintro w' ⟨hs0, hs1, hs2, hs3, hs4, hs5, hs6⟩; go_simp; try with_reducible rfl))
                  try simp only [gA, gB, gC, Act.put, gD, gE, gF]
                  first | (refine tR (i := 5) rfl rfl ?_) | (refine tL (i := 5) (v := ?vl3x5) rfl ?hyl3x5 ?rl3x5; case hyl3x5 => (rintro w' ⟨hs0, hs1, hs2, hs3, hs4, hs5, hs6⟩; go_simp; try with_reducible rfl))
                  try simp only [gA, gB, gC, Act.put, gD, gE, gF]
                  first | (refine tR (i := 6) rfl rfl ?_) | (refine tL (i := 6) (v := ?vl3x6) rfl ?hyl3x6 ?rl3x6; case hyl3x6 => (rintro w' ⟨hs0, hs1, hs2, hs3, hs4, hs5, hs6⟩; go_simp; try with_reducible rfl))
                  try simp only [gA, gB, gC, Act.put, gD, gE, gF]
                  first | (refine tR (i := 7) rfl rfl ?_) | (refine tL (i := 7) (v := ?vl3x7) rfl ?hyl3x7 ?rl3x7; case hyl3x7 => (rintro w' ⟨hs0, hs1, hs2, hs3, hs4, hs5, hs6⟩; go_simp; try with_reducible rfl))
                  try simp only [gA, gB, gC, Act.put, gD, gE, gF]
                  first | (refine tR (i := 8) rfl rfl ?_) | (refine tL (i := 8) (v := ?vl3x8) rfl ?hyl3x8 ?rl3x8; case hyl3x8 => (rintro w' ⟨hs0, hs1, hs2, hs3, hs4, hs5, hs6⟩; go_simp; try with_reducible rfl))
                  try simp only [gA, gB, gC, Act.put, gD, gE, gF]
                  first | (refine tR (i := 9) rfl rfl ?_) | (refine tL (i := 9) (v := ?vl3x9) rfl ?hyl3x9 ?rl3x9; case hyl3x9 => (rintro w' ⟨hs0, hs1, hs2, hs3, hs4, hs5, hs6⟩; go_simp; try with_reducible rfl))
                  try simp only [gA, gB, gC, Act.put, gD, gE, gF]
                  first | (refine tR (i := 10) rfl rfl ?_) | (refine tL (i := 10) (v := ?vl3x10) rfl ?hyl3x10 ?rl3x10; case hyl3x10 => (rintro w' ⟨hs0, hs1, hs2, hs3, hs4, hs5, hs6⟩; go_simp; try with_reducible rfl))
                  try simp only [gA, gB, gC, Act.put, gD, gE, gF]
                  first | (refine tR (i := 11) rfl rfl ?_) | (refine tL (i := 11) (v := ?vl3x11) rfl ?hyl3x11 ?rl3x11; case hyl3x11 => (rintro w' ⟨hs0, hs1, hs2, hs3, hs4, hs5, hs6⟩; go_simp; try with_reducible rfl))
                  try simp only [gA, gB, gC, Act.put, gD, gE, gF]
                  first | (refine tR (i := 12) rfl rfl ?_) | (refine tL (i := 12) (v := ?vl3x12) rfl ?hyl3x12 ?rl3x12; case hyl3x12 => (rintro w' ⟨hs0, hs1, hs2, hs3, hs4, hs5, hs6⟩; go_simp; try with_reducible rfl))
                  try simp only [gA, gB, gC, Act.put, gD, gE, gF]
                  first | (refine tR (i := 13) rfl rfl ?_) | (refine tL (i := 13) (v := ?vl3x13) rfl ?hyl3x13 ?rl3x13; case hyl3x13 => (rintro w' ⟨hs0, hs1, hs2, hs3, hs4, hs5, hs6⟩; go_simp; try with_reducible rfl))
                  try simp only [gA, gB, gC, Act.put, gD, gE, gF]
                  first | (refine tR (i := 14) rfl rfl ?_) | (refine tL (i := 14) (v := ?vl3x14) rfl ?hyl3x14 ?rl3x14; case hyl3x14 => (rintro w' ⟨hs0, hs1, hs2, hs3, hs4, hs5, hs6⟩; go_simp; try with_reducible rfl))
                  try simp only [gA, gB, gC, Act.put, gD, gE, gF]
                  first | (refine tR (i := 15) rfl rfl ?_) | (refine tL (i := 15) (v := ?vl3x15) rfl ?hyl3x15 ?rl3x15; case hyl3x15 => (rintro w' ⟨hs0, hs1, hs2, hs3, hs4, hs5, hs6⟩; go_simp; try with_reducible rfl))
                  try simp only [gA, gB, gC, Act.put, gD, gE, gF]
                  first | (refine tR (i := 16) rfl rfl ?_) | (refine tL (i := 16) (v := ?vl3x16) rfl ?hyl3x16 ?rl3x16; case hyl3x16 => (rintro w' ⟨hs0, hs1, hs2, hs3, hs4, hs5, hs6⟩; go_simp; try with_reducible rfl))
                  try simp only [gA, gB, gC, Act.put, gD, gE, gF]
                  first | (refine tR (i := 17) rfl rfl ?_) | (refine tL (i := 17) (v := ?vl3x17) rfl ?hyl3x17 ?rl3x17; case hyl3x17 => (rintro w' ⟨hs0, hs1, hs2, hs3, hs4, hs5, hs6⟩; go_simp; try with_reducible rfl))
                  try simp only [gA, gB, gC, Act.put, gD, gE, gF]
                  first | (refine tR (i := 18) rfl rfl ?_) | (refine tL (i := 18) (v := ?vl3x18) rfl ?hyl3x18 ?rl3x18; case hyl3x18 => (rintro w' ⟨hs0, hs1, hs2, hs3, hs4, hs5, hs6⟩; go_simp; try with_reducible rfl))
                  try simp only [gA, gB, gC, Act.put, gD, gE, gF]
                  first | (refine tR (i := 19) rfl rfl ?_) | (refine tL (i := 19) (v := ?vl3x19) rfl ?hyl3x19 ?rl3x19; case hyl3x19 => (rintro w' ⟨hs0, hs1, hs2, hs3, hs4, hs5, hs6⟩; go_simp; try with_reducible rfl))
                  try simp only [gA, gB, gC, Act.put, gD, gE, gF]
                  first | (refine tR (i := 20) rfl rfl ?_) | (refine tL (i := 20) (v := ?vl3x20) rfl ?hyl3x20 ?rl3x20; case hyl3x20 => (rintro w' ⟨hs0, hs1, hs2, hs3, hs4, hs5, hs6⟩; go_simp; try with_reducible rfl))
                  try simp only [gA, gB, gC, Act.put, gD, gE, gF]
                  first | (refine tR (i := 21) rfl rfl ?_) | (refine tL (i := 21) (v := ?vl3x21) rfl ?hyl3x21 ?rl3x21; case hyl3x21 => (rintro w' ⟨hs0, hs1, hs2, hs3, hs4, hs5, hs6⟩; go_simp; try with_reducible rfl))
                  try simp only [gA, gB, gC, Act.put, gD, gE, gF]
                  first | (refine tR (i := 22) rfl rfl ?_) | (refine tL (i := 22) (v := ?vl3x22) rfl ?hyl3x22 ?rl3x22; case hyl3x22 => (rintro w' ⟨hs0, hs1, hs2, hs3, hs4, hs5, hs6⟩; go_simp; try with_reducible rfl))
                  try simp only [gA, gB, gC, Act.put, gD, gE, gF]
                  first | (refine tR (i := 23) rfl rfl ?_) | (refine tL (i := 23) (v := ?vl3x23) rfl ?hyl3x23 ?rl3x23; case hyl3x23 => (rintro w' ⟨hs0, hs1, hs2, hs3, hs4, hs5, hs6⟩; go_simp; try with_reducible rfl))
                  try simp only [gA, gB, gC, Act.put, gD, gE, gF]
                  first | (refine tR (i := 24) rfl rfl ?_) | (refine tL (i := 24) (v := ?vl3x24) rfl ?hyl3x24 ?rl3x24; case hyl3x24 => (rintro w' ⟨hs0, hs1, hs2, hs3, hs4, hs5, hs6⟩; go_simp; try with_reducible rfl))
                  try simp only [gA, gB, gC, Act.put, gD, gE, gF]
                  first | (refine tR (i := 25) rfl rfl ?_) | (refine tL (i := 25) (v := ?vl3x25) rfl ?hyl3x25 ?rl3x25; case hyl3x25 => (rintro w' ⟨hs0, hs1, hs2, hs3, hs4, hs5, hs6⟩; go_simp; try with_reducible rfl))
                  try simp only [gA, gB, gC, Act.put, gD, gE, gF]
                  first | (refine tR (i := 26) rfl rfl ?_) | (refine tL (i := 26) (v := ?vl3x26) rfl ?hyl3x26 ?rl3x26; case hyl3x26 => (rintro w' ⟨hs0, hs1, hs2, hs3, hs4, hs5, hs6⟩; go_simp; try with_reducible rfl))
                  try simp only [gA, gB, gC, Act.put, gD, gE, gF]
                  first | (refine tR (i := 27) rfl rfl ?_) | (refine tL (i := 27) (v := ?vl3x27) rfl ?hyl3x27 ?rl3x27; case hyl3x27 => (rintro w' ⟨hs0, hs1, hs2, hs3, hs4, hs5, hs6⟩; go_simp; try with_reducible rfl))
                  try simp only [gA, gB, gC, Act.put, gD, gE, gF]
                  first | (refine tR (i := 28) rfl rfl ?_) | (refine tL (i := 28) (v := ?vl3x28) rfl ?hyl3x28 ?rl3x28; case hyl3x28 => (rintro w' ⟨hs0, hs1, hs2, hs3, hs4, hs5, hs6⟩; go_simp; try with_reducible rfl))
                  try simp only [gA, gB, gC, Act.put, gD, gE, gF]
                  first | (refine tR (i := 29) rfl rfl ?_) | (refine tL (i := 29) (v := ?vl3x29) rfl ?hyl3x29 ?rl3x29; case hyl3x29 => (rintro w' ⟨hs0, hs1, hs2, hs3, hs4, hs5, hs6⟩; go_simp; try with_reducible rfl))
                  try simp only [gA, gB, gC, Act.put, gD, gE, gF]
                  first | (refine tR (i := 30) rfl rfl ?_) | (refine tL (i := 30) (v := ?vl3x30) rfl ?hyl3x30 ?rl3x30; case hyl3x30 => (rintro w' ⟨hs0, hs1, hs2, hs3, hs4, hs5, hs6⟩; go_simp; try with_reducible rfl))
                  try simp only [gA, gB, gC, Act.put, gD, gE, gF]
                  first | (refine tR (i := 31) rfl rfl ?_) | (refine tL (i := 31) (v := ?vl3x31) rfl ?hyl3x31 ?rl3x31; case hyl3x31 => (rintro w' ⟨hs0, hs1, hs2, hs3, hs4, hs5, hs6⟩; go_simp; try with_reducible rfl))
                  try simp only [gA, gB, gC, Act.put, gD, gE, gF]
                  first | (refine tR (i := 32) rfl rfl ?_) | (refine tL (i := 32) (v := ?vl3x32) rfl ?hyl3x32 ?rl3x32; case hyl3x32 => (rintro w' ⟨hs0, hs1, hs2, hs3, hs4, hs5, hs6⟩; go_simp; try with_reducible rfl))
                  try simp only [gA, gB, gC, Act.put, gD, gE, gF]
                  first | (refine tR (i := 33) rfl rfl ?_) | (refine tL (i := 33) (v := ?vl3x33) rfl ?hyl3x33 ?rl3x33; case hyl3x33 => (rintro w' ⟨hs0, hs1, hs2, hs3, hs4, hs5, hs6⟩; go_simp; try with_reducible rfl))
                  try simp only [gA, gB, gC, Act.put, gD, gE, gF]
                  refine wpAnyH_done (by kernel_rfl) ?_ _
                  all_goals (
                    go_wp2
                    go_ret
                    exact ⟨by rw [E.out, hno.out hok.out]; rfl, (hS3.below hB1).hb⟩)
                · have hok : Hid (okO ov ⟨sd, i, sq⟩ 0 = true) := by unfold Hid okO; rw [hget]; rw [hr, hA, decide_eq_false hG]; simp
                  refine wp_region_held_drew (S := fun w' => w'.cell? ⟨wr.heap.size, 0, none⟩ = some (.int .i64 x.dev) ∧ w'.cell? ⟨wr.heap.size, 1, none⟩ = some (.int .i64 x.inc) ∧ w'.cell? ⟨wr.heap.size, 2, none⟩ = some (.int .i64 x.seq) ∧ w'.cell? ⟨w.heap.size, 0, none⟩ = some (.int .i64 sd) ∧ w'.cell? ⟨w.heap.size, 1, none⟩ = some (.int .i64 i) ∧ w'.cell? ⟨w.heap.size, 2, none⟩ = some (.int .i64 sq) ∧ w'.cell? ⟨w.heap.size, 18, none⟩ = some (.slice (some ⟨g, off, none⟩) n c)) (by kernel_rfl) (hS0 _ hB1) (fun hHeld => ?_)
                  first | (refine tR (i := 0) rfl rfl ?_) | (refine tL (i := 0) (v := ?vl4x0) rfl ?hyl4x0 ?rl4x0; case hyl4x0 => (rintro w' ⟨hs0, hs1, hs2, hs3, hs4, hs5, hs6⟩; go_simp; try with_reducible rfl))
                  try simp only [gA, gB, Act.put, gD, gE, gF]
                  refine wpAnyH_ready (rs := [1]) (by kernel_rfl) (by simp) ?_
                  refine AllReadyH.cons (o := _) rfl (fun K hK => ?_) AllReadyH.nil
                  go_simp
                  go_at_call 86; (with_reducible refine (HRx _).mono ?_); rintro e7 w7 ⟨rfl, hx7⟩; have hB1 := hB1.trans (hx7.mono hB1.size); clear hx7
                  dsimp only
                  refine hK.out _ _ (hS0 _ hB1) (fun hHeld => ?_)
                  clear hK K
                  try simp only [gA, gB, gC, Act.put, gD, gE, gF]
                  first | (refine tR (i := 2) rfl rfl ?_) | (refine tL (i := 2) (v := ?vl4x2) rfl ?hyl4x2 ?rl4x2; case hyl4x2 => (rintro w' ⟨hs0, hs1, hs2, hs3, hs4, hs5, hs6⟩; go_simp; try with_reducible rfl))
                  try simp only [gA, gB, gC, Act.put, gD, gE, gF]
                  first | (refine tR (i := 3) rfl rfl ?_) | (refine tL (i := 3) (v := ?vl4x3) rfl ?hyl4x3 ?rl4x3; case hyl4x3 => (rintro w' ⟨hs0, hs1, hs2, hs3, hs4, hs5, hs6⟩; go_simp; try with_reducible rfl))
                  try simp only [gA, gB, gC, Act.put, gD, gE, gF]
                  first | (refine tR (i := 4) rfl rfl ?_) | (refine tL (i := 4) (v := ?vl4x4) rfl ?hyl4x4 ?rl4x4; case hyl4x4 => (rintro w' ⟨hs0, hs1, hs2, hs3, hs4, hs5, hs6⟩; go_simp; try with_reducible rfl))
                  try simp only [gA, gB, gC, Act.put, gD, gE, gF]
                  first | (refine tR (i := 5) rfl rfl ?_) | (refine tL (i := 5) (v := ?vl4x5) rfl ?hyl4x5 ?rl4x5; case hyl4x5 => (rintro w' ⟨hs0, hs1, hs2, hs3, hs4, hs5, hs6⟩; go_simp; try with_reducible rfl))
                  try simp only [gA, gB, gC, Act.put, gD, gE, gF]
                  first | (refine tR (i := 6) rfl rfl ?_) | (refine tL (i := 6) (v := ?vl4x6) rfl ?hyl4x6 ?rl4x6; case hyl4x6 => (rintro w' ⟨hs0, hs1, hs2, hs3, hs4, hs5, hs6⟩; go_simp; try with_reducible rfl))
                  try simp only [gA, gB, gC, Act.put, gD, gE, gF]
                  first | (refine tR (i := 7) rfl rfl ?_) | (refine tL (i := 7) (v := ?vl4x7) rfl ?hyl4x7 ?rl4x7; case hyl4x7 => (rintro w' ⟨hs0, hs1, hs2, hs3, hs4, hs5, hs6⟩; go_simp; try with_reducible rfl))
                  try simp only [gA, gB, gC, Act.put, gD, gE, gF]
                  first | (refine tR (i := 8) rfl rfl ?_) | (refine tL (i := 8) (v := ?vl4x8) rfl ?hyl4x8 ?rl4x8; case hyl4x8 => (rintro w' ⟨hs0, hs1, hs2, hs3, hs4, hs5, hs6⟩; go_simp; try with_reducible rfl))
                  try simp only [gA, gB, gC, Act.put, gD, gE, gF]
                  first | (refine tR (i := 9) rfl rfl ?_) | (refine tL (i := 9) (v := ?vl4x9) rfl ?hyl4x9 ?rl4x9; case hyl4x9 => (rintro w' ⟨hs0, hs1, hs2, hs3, hs4, hs5, hs6⟩; go_simp; try with_reducible rfl))
                  try simp only [gA, gB, gC, Act.put, gD, gE, gF]
                  first | (refine tR (i := 10) rfl rfl ?_) | (refine tL (i := 10) (v := ?vl4x10) rfl ?hyl4x10 ?rl4x10; case hyl4x10 => (rintro w' ⟨hs0, hs1, hs2, hs3, hs4, hs5, hs6⟩; go_simp; try with_reducible rfl))
                  try simp only [gA, gB, gC, Act.put, gD, gE, gF]
                  first | (refine tR (i := 11) rfl rfl ?_) | (refine tL (i := 11) (v := ?vl4x11) rfl ?hyl4x11 ?rl4x11; case hyl4x11 => (rintro w' ⟨hs0, hs1, hs2, hs3, hs4, hs5, hs6⟩; go_simp; try with_reducible rfl))
                  try simp only [gA, gB, gC, Act.put, gD, gE, gF]
                  first | (refine tR (i := 12) rfl rfl ?_) | (refine tL (i := 12) (v := ?vl4x12) rfl ?hyl4x12 ?rl4x12; case hyl4x12 => (rintro w' ⟨hs0, hs1, hs2, hs3, hs4, hs5, hs6⟩; go_simp; try with_reducible rfl))
                  try simp only [gA, gB, gC, Act.put, gD, gE, gF]
                  first | (refine tR (i := 13) rfl rfl ?_) | (refine tL (i := 13) (v := ?vl4x13) rfl ?hyl4x13 ?rl4x13; case hyl4x13 => (rintro w' ⟨hs0, hs1, hs2, hs3, hs4, hs5, hs6⟩; go_simp; try with_reducible rfl))
                  try simp only [gA, gB, gC, Act.put, gD, gE, gF]
                  first | (refine tR (i := 14) rfl rfl ?_) | (refine tL (i := 14) (v := ?vl4x14) rfl ?hyl4x14 ?rl4x14; case hyl4x14 => (rintro w' ⟨hs0, hs1, hs2, hs3, hs4, hs5, hs6⟩; go_simp; try with_reducible rfl))
                  try simp only [gA, gB, gC, Act.put, gD, gE, gF]
                  first | (refine tR (i := 15) rfl rfl ?_) | (refine tL (i := 15) (v := ?vl4x15) rfl ?hyl4x15 ?rl4x15; case hyl4x15 => (rintro w' ⟨hs0, hs1, hs2, hs3, hs4, hs5, hs6⟩; go_simp; try with_reducible rfl))
                  try simp only [gA, gB, gC, Act.put, gD, gE, gF]
                  first | (refine tR (i := 16) rfl rfl ?_) | (refine tL (i := 16) (v := ?vl4x16) rfl ?hyl4x16 ?rl4x16; case hyl4x16 => (rintro w' ⟨hs0, hs1, hs2, hs3, hs4, hs5, hs6⟩; go_simp; try with_reducible rfl))
                  try simp only [gA, gB, gC, Act.put, gD, gE, gF]
                  first | (refine tR (i := 17) rfl rfl ?_) | (refine tL (i := 17) (v := ?vl4x17) rfl ?hyl4x17 ?rl4x17; case hyl4x17 => (rintro w' ⟨hs0, hs1, hs2, hs3, hs4, hs5, hs6⟩; go_simp; try with_reducible rfl))
                  try simp only [gA, gB, gC, Act.put, gD, gE, gF]
                  first | (refine tR (i := 18) rfl rfl ?_) | (refine tL (i := 18) (v := ?vl4x18) rfl ?hyl4x18 ?rl4x18; case hyl4x18 => (rintro w' ⟨hs0, hs1, hs2, hs3, hs4, hs5, hs6⟩; go_simp; try with_reducible rfl))
                  try simp only [gA, gB, gC, Act.put, gD, gE, gF]
                  first | (refine tR (i := 19) rfl rfl ?_) | (refine tL (i := 19) (v := ?vl4x19) rfl ?hyl4x19 ?rl4x19; case hyl4x19 => (rintro w' ⟨hs0, hs1, hs2, hs3, hs4, hs5, hs6⟩; go_simp; try with_reducible rfl))
                  try simp only [gA, gB, gC, Act.put, gD, gE, gF]
                  first | (refine tR (i := 20) rfl rfl ?_) | (refine tL (i := 20) (v := ?vl4x20) rfl ?hyl4x20 ?rl4x20; case hyl4x20 => (rintro w' ⟨hs0, hs1, hs2, hs3, hs4, hs5, hs6⟩; go_simp; try with_reducible rfl))
                  try simp only [gA, gB, gC, Act.put, gD, gE, gF]
                  first | (refine tR (i := 21) rfl rfl ?_) | (refine tL (i := 21) (v := ?vl4x21) rfl ?hyl4x21 ?rl4x21; case hyl4x21 => (rintro w' ⟨hs0, hs1, hs2, hs3, hs4, hs5, hs6⟩; go_simp; try with_reducible rfl))
                  try simp only [gA, gB, gC, Act.put, gD, gE, gF]
                  first | (refine tR (i := 22) rfl rfl ?_) | (refine tL (i := 22) (v := ?vl4x22) rfl ?hyl4x22 ?rl4x22; case hyl4x22 => (rintro w' ⟨hs0, hs1, hs2, hs3, hs4, hs5, hs6⟩; go_simp; try with_reducible rfl))
                  try simp only [gA, gB, gC, Act.put, gD, gE, gF]
                  first | (refine tR (i := 23) rfl rfl ?_) | (refine tL (i := 23) (v := ?vl4x23) rfl ?hyl4x23 ?rl4x23; case hyl4x23 => (rintro w' ⟨hs0, hs1, hs2, hs3, hs4, hs5, hs6⟩; go_simp; try with_reducible rfl))
                  try simp only [gA, gB, gC, Act.put, gD, gE, gF]
                  first | (refine tR (i := 24) rfl rfl ?_) | (refine tL (i := 24) (v := ?vl4x24) rfl ?hyl4x24 ?rl4x24; case hyl4x24 => (rintro w' ⟨hs0, hs1, hs2, hs3, hs4, hs5, hs6⟩; go_simp; try with_reducible rfl))
                  try simp only [gA, gB, gC, Act.put, gD, gE, gF]
                  first | (refine tR (i := 25) rfl rfl ?_) | (refine tL (i := 25) (v := ?vl4x25) rfl ?hyl4x25 ?rl4x25; case hyl4x25 => (rintro w' ⟨hs0, hs1, hs2, hs3, hs4, hs5, hs6⟩; go_simp; try with_reducible rfl))
                  try simp only [gA, gB, gC, Act.put, gD, gE, gF]
                  first | (refine tR (i := 26) rfl rfl ?_) | (refine tL (i := 26) (v := ?vl4x26) rfl ?hyl4x26 ?rl4x26; case hyl4x26 => (rintro w' ⟨hs0, hs1, hs2, hs3, hs4, hs5, hs6⟩; go_simp; try with_reducible rfl))
                  try simp only [gA, gB, gC, Act.put, gD, gE, gF]
                  first | (refine tR (i := 27) rfl rfl ?_) | (refine tL (i := 27) (v := ?vl4x27) rfl ?hyl4x27 ?rl4x27; case hyl4x27 => (rintro w' ⟨hs0, hs1, hs2, hs3, hs4, hs5, hs6⟩; go_simp; try with_reducible rfl))
                  try simp only [gA, gB, gC, Act.put, gD, gE, gF]
                  first | (refine tR (i := 28) rfl rfl ?_) | (refine tL (i := 28) (v := ?vl4x28) rfl ?hyl4x28 ?rl4x28; case hyl4x28 => (rintro w' ⟨hs0, hs1, hs2, hs3, hs4, hs5, hs6⟩; go_simp; try with_reducible rfl))
                  try simp only [gA, gB, gC, Act.put, gD, gE, gF]
                  first | (refine tR (i := 29) rfl rfl ?_) | (refine tL (i := 29) (v := ?vl4x29) rfl ?hyl4x29 ?rl4x29; case hyl4x29 => (rintro w' ⟨hs0, hs1, hs2, hs3, hs4, hs5, hs6⟩; go_simp; try with_reducible rfl))
                  try simp only [gA, gB, gC, Act.put, gD, gE, gF]
                  first | (refine tR (i := 30) rfl rfl ?_) | (refine tL (i := 30) (v := ?vl4x30) rfl ?hyl4x30 ?rl4x30; case hyl4x30 => (rintro w' ⟨hs0, hs1, hs2, hs3, hs4, hs5, hs6⟩; go_simp; try with_reducible rfl))
                  try simp only [gA, gB, gC, Act.put, gD, gE, gF]
                  first | (refine tR (i := 31) rfl rfl ?_) | (refine tL (i := 31) (v := ?vl4x31) rfl ?hyl4x31 ?rl4x31; case hyl4x31 => (rintro w' ⟨hs0, hs1, hs2, hs3, hs4, hs5, hs6⟩; go_simp; try with_reducible rfl))
                  try simp only [gA, gB, gC, Act.put, gD, gE, gF]
                  first | (refine tR (i := 32) rfl rfl ?_) | (refine tL (i := 32) (v := ?vl4x32) rfl ?hyl4x32 ?rl4x32; case hyl4x32 => (rintro w' ⟨hs0, hs1, hs2, hs3, hs4, hs5, hs6⟩; go_simp; try with_reducible rfl))
                  try simp only [gA, gB, gC, Act.put, gD, gE, gF]
                  first | (refine tR (i := 33) rfl rfl ?_) | (refine tL (i := 33) (v := ?vl4x33) rfl ?hyl4x33 ?rl4x33; case hyl4x33 => (rintro w' ⟨hs0, hs1, hs2, hs3, hs4, hs5, hs6⟩; go_simp; try with_reducible rfl))
                  try simp only [gA, gB, gC, Act.put, gD, gE, gF]
                  refine wpAnyH_done (by kernel_rfl) ?_ _
                  all_goals (
                    go_wp2
                    go_roundw
                    case rel => exact ⟨0 + 1, by omega, by go_num, hyes.out hok.out, hS3.below hB1⟩
                    case measure => simp [intOf]; omega)
          · obtain ⟨K, rfl⟩ : ∃ K, k = K + 1 := ⟨k - 1, by omega⟩
            obtain ⟨x, g, off, hx, rfl, d0, d1, d2⟩ := dot_at hS.row (K + 1) hlt
            have hget : ov.getD (K + 1) ⟨0, 0, 0⟩ = x := by rw [List.getD_eq_getElem?_getD, hx]; rfl
            obtain ⟨y, g2, off2, hy, hq, p0, p1, p2⟩ := dot_at hS.row K (by omega)
            cases hq
            have hgetp : ov.getD K ⟨0, 0, 0⟩ = y := by rw [List.getD_eq_getElem?_getD, hy]; rfl
            have HLx := fun v => refDLessC y x v
            have hKn : (K : Int) < (n : Int) := by omega
            have hwk : IntKind.i64.wrap (K : Int) = (K : Int) := by rw [IntKind.wrap_i64]; omega
            have HRx := fun v => refDRightC x v
            have hyes : Hid (okO ov ⟨sd, i, sq⟩ (K + 1) = true → ∀ j, j < (K + 1) + 1 → okO ov ⟨sd, i, sq⟩ j = true) := fun h j hj => by
              by_cases hjk : j = (K + 1)
              · rw [hjk]; exact h
              · exact hall.out j (by omega)
            have hno : Hid (okO ov ⟨sd, i, sq⟩ (K + 1) = false → (List.range n).all (okO ov ⟨sd, i, sq⟩) = false) := fun h => by
              rw [List.all_eq_false]
              exact ⟨(K + 1), List.mem_range.2 hlt, by rw [h]; exact Bool.false_ne_true⟩
            have u0 := hS.o.cell 0 rfl; have u1 := hS.o.cell 1 rfl; have u2 := hS.o.cell 2 rfl; have u3 := hS.o.cell 3 rfl; have u4 := hS.o.cell 4 rfl; have u5 := hS.o.cell 5 rfl; have u6 := hS.o.cell 6 rfl; have u7 := hS.o.cell 7 rfl; have u8 := hS.o.cell 8 rfl; have u9 := hS.o.cell 9 rfl; have u10 := hS.o.cell 10 rfl; have u11 := hS.o.cell 11 rfl; have u12 := hS.o.cell 12 rfl; have u13 := hS.o.cell 13 rfl; have u14 := hS.o.cell 14 rfl; have u15 := hS.o.cell 15 rfl; have u16 := hS.o.cell 16 rfl; have u17 := hS.o.cell 17 rfl; have u18 := hS.o.cell 18 rfl
            have y3 := below_alloc wr (.cells #[.int .i64 x.dev, .int .i64 x.inc, .int .i64 x.seq] 35)
            have ox := ObjAt.new wr #[.int .i64 x.dev, .int .i64 x.inc, .int .i64 x.seq] 35
            have hS3 := hS.below y3
            have p0 := (y3.cell (p := ⟨g, off + K * 3, none⟩) (cell_lt p0)).trans p0
            have p1 := (y3.cell (p := ⟨g, off + K * 3 + 1, none⟩) (cell_lt p1)).trans p1
            have p2 := (y3.cell (p := ⟨g, off + K * 3 + 2, none⟩) (cell_lt p2)).trans p2
            go_wp2
            generalize hw3 : wr.alloc (.cells #[.int .i64 x.dev, .int .i64 x.inc, .int .i64 x.seq] 35) = w3 at *
            have hS0 : ∀ w', Below w3.heap.size w3 w' → w'.cell? ⟨wr.heap.size, 0, none⟩ = some (.int .i64 x.dev) ∧ w'.cell? ⟨wr.heap.size, 1, none⟩ = some (.int .i64 x.inc) ∧ w'.cell? ⟨wr.heap.size, 2, none⟩ = some (.int .i64 x.seq) ∧ w'.cell? ⟨w.heap.size, 0, none⟩ = some (.int .i64 sd) ∧ w'.cell? ⟨w.heap.size, 1, none⟩ = some (.int .i64 i) ∧ w'.cell? ⟨w.heap.size, 2, none⟩ = some (.int .i64 sq) ∧ w'.cell? ⟨w.heap.size, 18, none⟩ = some (.slice (some ⟨g, off, none⟩) n c) ∧ w'.cell? ⟨g, off + K * 3, none⟩ = some (.int .i64 y.dev) ∧ w'.cell? ⟨g, off + K * 3 + 1, none⟩ = some (.int .i64 y.inc) ∧ w'.cell? ⟨g, off + K * 3 + 2, none⟩ = some (.int .i64 y.seq) := fun w' h => ⟨(ox.below h ox.lt).cell 0 rfl, (ox.below h ox.lt).cell 1 rfl, (ox.below h ox.lt).cell 2 rfl, (hS3.below h).o.cell 0 rfl, (hS3.below h).o.cell 1 rfl, (hS3.below h).o.cell 2 rfl, (hS3.below h).o.cell 18 rfl, (h.cell (p := ⟨g, off + K * 3, none⟩) (cell_lt p0)).trans p0, (h.cell (p := ⟨g, off + K * 3 + 1, none⟩) (cell_lt p1)).trans p1, (h.cell (p := ⟨g, off + K * 3 + 2, none⟩) (cell_lt p2)).trans p2⟩
            have hB1 : Below w3.heap.size w3 w3.drew := (Below.refl _ w3).drew
            cases hr : rightD x with
            | false =>
              rw [hr] at HRx
              have hok : Hid (okO ov ⟨sd, i, sq⟩ (K + 1) = false) := by unfold Hid okO; rw [hget]; rw [hr]; rfl
              refine wp_region_held_drew (S := fun w' => w'.cell? ⟨wr.heap.size, 0, none⟩ = some (.int .i64 x.dev) ∧ w'.cell? ⟨wr.heap.size, 1, none⟩ = some (.int .i64 x.inc) ∧ w'.cell? ⟨wr.heap.size, 2, none⟩ = some (.int .i64 x.seq) ∧ w'.cell? ⟨w.heap.size, 0, none⟩ = some (.int .i64 sd) ∧ w'.cell? ⟨w.heap.size, 1, none⟩ = some (.int .i64 i) ∧ w'.cell? ⟨w.heap.size, 2, none⟩ = some (.int .i64 sq) ∧ w'.cell? ⟨w.heap.size, 18, none⟩ = some (.slice (some ⟨g, off, none⟩) n c) ∧ w'.cell? ⟨g, off + K * 3, none⟩ = some (.int .i64 y.dev) ∧ w'.cell? ⟨g, off + K * 3 + 1, none⟩ = some (.int .i64 y.inc) ∧ w'.cell? ⟨g, off + K * 3 + 2, none⟩ = some (.int .i64 y.seq)) (by kernel_rfl) (hS0 _ hB1) (fun hHeld => ?_)
              first | (refine tR (i := 0) rfl rfl ?_) | (refine tL (i := 0) (v := ?vl5x0) rfl ?hyl5x0 ?rl5x0; case hyl5x0 => (rintro w' ⟨hs0, hs1, hs2, hs3, hs4, hs5, hs6, hs7, hs8, hs9⟩; go_simp; try with_reducible rfl))
              try simp only [gA, gB, Act.put, gD, gE, gF]
              refine wpAnyH_ready (rs := [1]) (by kernel_rfl) (by simp) ?_
              refine AllReadyH.cons (o := _) rfl (fun K hK => ?_) AllReadyH.nil
              go_simp
              go_at_call 86; (with_reducible refine (HRx _).mono ?_); rintro e7 w7 ⟨rfl, hx7⟩; have hB1 := hB1.trans (hx7.mono hB1.size); clear hx7
              dsimp only
              refine hK.out _ _ (hS0 _ hB1) (fun hHeld => ?_)
              clear hK K
              try simp only [gA, gB, gC, Act.put, gD, gE, gF]
              first | (refine tR (i := 2) rfl rfl ?_) | (refine tL (i := 2) (v := ?vl5x2) rfl ?hyl5x2 ?rl5x2; case hyl5x2 => (rintro w' ⟨hs0, hs1, hs2, hs3, hs4, hs5, hs6, hs7, hs8, hs9⟩; go_simp; try with_reducible rfl))
              try simp only [gA, gB, gC, Act.put, gD, gE, gF]
              first | (refine tR (i := 3) rfl rfl ?_) | (refine tL (i := 3) (v := ?vl5x3) rfl ?hyl5x3 ?rl5x3; case hyl5x3 => (rintro w' ⟨hs0, hs1, hs2, hs3, hs4, hs5, hs6, hs7, hs8, hs9⟩; go_simp; try with_reducible rfl))
              try simp only [gA, gB, gC, Act.put, gD, gE, gF]
              first | (refine tR (i := 4) rfl rfl ?_) | (refine tL (i := 4) (v := ?vl5x4) rfl ?hyl5x4 ?rl5x4; case hyl5x4 => (rintro w' ⟨hs0, hs1, hs2, hs3, hs4, hs5, hs6, hs7, hs8, hs9⟩; go_simp; try with_reducible rfl))
              try simp only [gA, gB, gC, Act.put, gD, gE, gF]
              first | (refine tR (i := 5) rfl rfl ?_) | (refine tL (i := 5) (v := ?vl5x5) rfl ?hyl5x5 ?rl5x5; case hyl5x5 => (rintro w' ⟨hs0, hs1, hs2, hs3, hs4, hs5, hs6, hs7, hs8, hs9⟩; go_simp; try with_reducible rfl))
              try simp only [gA, gB, gC, Act.put, gD, gE, gF]
              first | (refine tR (i := 6) rfl rfl ?_) | (refine tL (i := 6) (v := ?vl5x6) rfl ?hyl5x6 ?rl5x6; case hyl5x6 => (rintro w' ⟨hs0, hs1, hs2, hs3, hs4, hs5, hs6, hs7, hs8, hs9⟩; go_simp; try with_reducible rfl))
              try simp only [gA, gB, gC, Act.put, gD, gE, gF]
              first | (refine tR (i := 7) rfl rfl ?_) | (refine tL (i := 7) (v := ?vl5x7) rfl ?hyl5x7 ?rl5x7; case hyl5x7 => (rintro w' ⟨hs0, hs1, hs2, hs3, hs4, hs5, hs6, hs7, hs8, hs9⟩; go_simp; try with_reducible rfl))
              try simp only [gA, gB, gC, Act.put, gD, gE, gF]
              first | (refine tR (i := 8) rfl rfl ?_) | (refine tL (i := 8) (v := ?vl5x8) rfl ?hyl5x8 ?rl5x8; case hyl5x8 => (rintro w' ⟨hs0, hs1, hs2, hs3, hs4, hs5, hs6, hs7, hs8, hs9⟩; go_simp; try with_reducible rfl))
              try simp only [gA, gB, gC, Act.put, gD, gE, gF]
              first | (refine tR (i := 9) rfl rfl ?_) | (refine tL (i := 9) (v := ?vl5x9) rfl ?hyl5x9 ?rl5x9; case hyl5x9 => (rintro w' ⟨hs0, hs1, hs2, hs3, hs4, hs5, hs6, hs7, hs8, hs9⟩; go_simp; try with_reducible rfl))
              try simp only [gA, gB, gC, Act.put, gD, gE, gF]
              first | (refine tR (i := 10) rfl rfl ?_) | (refine tL (i := 10) (v := ?vl5x10) rfl ?hyl5x10 ?rl5x10; case hyl5x10 => (rintro w' ⟨hs0, hs1, hs2, hs3, hs4, hs5, hs6, hs7, hs8, hs9⟩; go_simp; try with_reducible rfl))
              try simp only [gA, gB, gC, Act.put, gD, gE, gF]
              first | (refine tR (i := 11) rfl rfl ?_) | (refine tL (i := 11) (v := ?vl5x11) rfl ?hyl5x11 ?rl5x11; case hyl5x11 => (rintro w' ⟨hs0, hs1, hs2, hs3, hs4, hs5, hs6, hs7, hs8, hs9⟩; go_simp; try with_reducible rfl))
              try simp only [gA, gB, gC, Act.put, gD, gE, gF]
              first | (refine tR (i := 12) rfl rfl ?_) | (refine tL (i := 12) (v := ?vl5x12) rfl ?hyl5x12 ?rl5x12; case hyl5x12 => (rintro w' ⟨hs0, hs1, hs2, hs3, hs4, hs5, hs6, hs7, hs8, hs9⟩; go_simp; try with_reducible rfl))
              try simp only [gA, gB, gC, Act.put, gD, gE, gF]
              first | (refine tR (i := 13) rfl rfl ?_) | (refine tL (i := 13) (v := ?vl5x13) rfl ?hyl5x13 ?rl5x13; case hyl5x13 => (rintro w' ⟨hs0, hs1, hs2, hs3, hs4, hs5, hs6, hs7, hs8, hs9⟩; go_simp; try with_reducible rfl))
              try simp only [gA, gB, gC, Act.put, gD, gE, gF]
              first | (refine tR (i := 14) rfl rfl ?_) | (refine tL (i := 14) (v := ?vl5x14) rfl ?hyl5x14 ?rl5x14; case hyl5x14 => (rintro w' ⟨hs0, hs1, hs2, hs3, hs4, hs5, hs6, hs7, hs8, hs9⟩; go_simp; try with_reducible rfl))
              try simp only [gA, gB, gC, Act.put, gD, gE, gF]
              first | (refine tR (i := 15) rfl rfl ?_) | (refine tL (i := 15) (v := ?vl5x15) rfl ?hyl5x15 ?rl5x15; case hyl5x15 => (rintro w' ⟨hs0, hs1, hs2, hs3, hs4, hs5, hs6, hs7, hs8, hs9⟩; go_simp; try with_reducible rfl))
              try simp only [gA, gB, gC, Act.put, gD, gE, gF]
              first | (refine tR (i := 16) rfl rfl ?_) | (refine tL (i := 16) (v := ?vl5x16) rfl ?hyl5x16 ?rl5x16; case hyl5x16 => (rintro w' ⟨hs0, hs1, hs2, hs3, hs4, hs5, hs6, hs7, hs8, hs9⟩; go_simp; try with_reducible rfl))
              try simp only [gA, gB, gC, Act.put, gD, gE, gF]
              first | (refine tR (i := 17) rfl rfl ?_) | (refine tL (i := 17) (v := ?vl5x17) rfl ?hyl5x17 ?rl5x17; case hyl5x17 => (rintro w' ⟨hs0, hs1, hs2, hs3, hs4, hs5, hs6, hs7, hs8, hs9⟩; go_simp; try with_reducible rfl))
              try simp only [gA, gB, gC, Act.put, gD, gE, gF]
              first | (refine tR (i := 18) rfl rfl ?_) | (refine tL (i := 18) (v := ?vl5x18) rfl ?hyl5x18 ?rl5x18; case hyl5x18 => (rintro w' ⟨hs0, hs1, hs2, hs3, hs4, hs5, hs6, hs7, hs8, hs9⟩; go_simp; try with_reducible rfl))
              try simp only [gA, gB, gC, Act.put, gD, gE, gF]
              first | (refine tR (i := 19) rfl rfl ?_) | (refine tL (i := 19) (v := ?vl5x19) rfl ?hyl5x19 ?rl5x19; case hyl5x19 => (rintro w' ⟨hs0, hs1, hs2, hs3, hs4, hs5, hs6, hs7, hs8, hs9⟩; go_simp; try with_reducible rfl))
              try simp only [gA, gB, gC, Act.put, gD, gE, gF]
              first | (refine tR (i := 20) rfl rfl ?_) | (refine tL (i := 20) (v := ?vl5x20) rfl ?hyl5x20 ?rl5x20; case hyl5x20 => (rintro w' ⟨hs0, hs1, hs2, hs3, hs4, hs5, hs6, hs7, hs8, hs9⟩; go_simp; try with_reducible rfl))
              try simp only [gA, gB, gC, Act.put, gD, gE, gF]
              first | (refine tR (i := 21) rfl rfl ?_) | (refine tL (i := 21) (v := ?vl5x21) rfl ?hyl5x21 ?rl5x21; case hyl5x21 => (rintro w' ⟨hs0, hs1, hs2, hs3, hs4, hs5, hs6, hs7, hs8, hs9⟩; go_simp; try with_reducible rfl))
              try simp only [gA, gB, gC, Act.put, gD, gE, gF]
              first | (refine tR (i := 22) rfl rfl ?_) | (refine tL (i := 22) (v := ?vl5x22) rfl ?hyl5x22 ?rl5x22; case hyl5x22 => (rintro w' ⟨hs0, hs1, hs2, hs3, hs4, hs5, hs6, hs7, hs8, hs9⟩; go_simp; try with_reducible rfl))
              try simp only [gA, gB, gC, Act.put, gD, gE, gF]
              first | (refine tR (i := 23) rfl rfl ?_) | (refine tL (i := 23) (v := ?vl5x23) rfl ?hyl5x23 ?rl5x23; case hyl5x23 => (rintro w' ⟨hs0, hs1, hs2, hs3, hs4, hs5, hs6, hs7, hs8, hs9⟩; go_simp; try with_reducible rfl))
              try simp only [gA, gB, gC, Act.put, gD, gE, gF]
              first | (refine tR (i := 24) rfl rfl ?_) | (refine tL (i := 24) (v := ?vl5x24) rfl ?hyl5x24 ?rl5x24; case hyl5x24 => (rintro w' ⟨hs0, hs1, hs2, hs3, hs4, hs5, hs6, hs7, hs8, hs9⟩; go_simp; try with_reducible rfl))
              try simp only [gA, gB, gC, Act.put, gD, gE, gF]
              first | (refine tR (i := 25) rfl rfl ?_) | (refine tL (i := 25) (v := ?vl5x25) rfl ?hyl5x25 ?rl5x25; case hyl5x25 => (rintro w' ⟨hs0, hs1, hs2, hs3, hs4, hs5, hs6, hs7, hs8, hs9⟩; go_simp; try with_reducible rfl))
              try simp only [gA, gB, gC, Act.put, gD, gE, gF]
              first | (refine tR (i := 26) rfl rfl ?_) | (refine tL (i := 26) (v := ?vl5x26) rfl ?hyl5x26 ?rl5x26; case hyl5x26 => (rintro w' ⟨hs0, hs1, hs2, hs3, hs4, hs5, hs6, hs7, hs8, hs9⟩; go_simp; try with_reducible rfl))
              try simp only [gA, gB, gC, Act.put, gD, gE, gF]
              first | (refine tR (i := 27) rfl rfl ?_) | (refine tL (i := 27) (v := ?vl5x27) rfl ?hyl5x27 ?rl5x27; case hyl5x27 => (rintro w' ⟨hs0, hs1, hs2, hs3, hs4, hs5, hs6, hs7, hs8, hs9⟩; go_simp; try with_reducible rfl))
              try simp only [gA, gB, gC, Act.put, gD, gE, gF]
              first | (refine tR (i := 28) rfl rfl ?_) | (refine tL (i := 28) (v := ?vl5x28) rfl ?hyl5x28 ?rl5x28; case hyl5x28 => (rintro w' ⟨hs0, hs1, hs2, hs3, hs4, hs5, hs6, hs7, hs8, hs9⟩; go_simp; try with_reducible rfl))
              try simp only [gA, gB, gC, Act.put, gD, gE, gF]
              first | (refine tR (i := 29) rfl rfl ?_) | (refine tL (i := 29) (v := ?vl5x29) rfl ?hyl5x29 ?rl5x29; case hyl5x29 => (rintro w' ⟨hs0, hs1, hs2, hs3, hs4, hs5, hs6, hs7, hs8, hs9⟩; go_simp; try with_reducible rfl))
              try simp only [gA, gB, gC, Act.put, gD, gE, gF]
              first | (refine tR (i := 30) rfl rfl ?_) | (refine tL (i := 30) (v := ?vl5x30) rfl ?hyl5x30 ?rl5x30; case hyl5x30 => (rintro w' ⟨hs0, hs1, hs2, hs3, hs4, hs5, hs6, hs7, hs8, hs9⟩; go_simp; try with_reducible rfl))
              try simp only [gA, gB, gC, Act.put, gD, gE, gF]
              first | (refine tR (i := 31) rfl rfl ?_) | (refine tL (i := 31) (v := ?vl5x31) rfl ?hyl5x31 ?rl5x31; case hyl5x31 => (rintro w' ⟨hs0, hs1, hs2, hs3, hs4, hs5, hs6, hs7, hs8, hs9⟩; go_simp; try with_reducible rfl))
              try simp only [gA, gB, gC, Act.put, gD, gE, gF]
              first | (refine tR (i := 32) rfl rfl ?_) | (refine tL (i := 32) (v := ?vl5x32) rfl ?hyl5x32 ?rl5x32; case hyl5x32 => (rintro w' ⟨hs0, hs1, hs2, hs3, hs4, hs5, hs6, hs7, hs8, hs9⟩; go_simp; try with_reducible rfl))
              try simp only [gA, gB, gC, Act.put, gD, gE, gF]
              first | (refine tR (i := 33) rfl rfl ?_) | (refine tL (i := 33) (v := ?vl5x33) rfl ?hyl5x33 ?rl5x33; case hyl5x33 => (rintro w' ⟨hs0, hs1, hs2, hs3, hs4, hs5, hs6, hs7, hs8, hs9⟩; go_simp; try with_reducible rfl))
              try simp only [gA, gB, gC, Act.put, gD, gE, gF]
              refine wpAnyH_done (by kernel_rfl) ?_ _
              all_goals (
                go_wp2
                go_ret
                exact ⟨by rw [E.out, hno.out hok.out]; rfl, (hS3.below hB1).hb⟩)
            | true =>
              rw [hr] at HRx
              cases hl : lessD y x with
              | false =>
                rw [hl] at HLx
                have hok : Hid (okO ov ⟨sd, i, sq⟩ (K + 1) = false) := by unfold Hid okO; rw [hget]; rw [hr, show K + 1 - 1 = K from rfl, hgetp, hl]; rfl
                refine wp_region_held_drew (S := fun w' => w'.cell? ⟨wr.heap.size, 0, none⟩ = some (.int .i64 x.dev) ∧ w'.cell? ⟨wr.heap.size, 1, none⟩ = some (.int .i64 x.inc) ∧ w'.cell? ⟨wr.heap.size, 2, none⟩ = some (.int .i64 x.seq) ∧ w'.cell? ⟨w.heap.size, 0, none⟩ = some (.int .i64 sd) ∧ w'.cell? ⟨w.heap.size, 1, none⟩ = some (.int .i64 i) ∧ w'.cell? ⟨w.heap.size, 2, none⟩ = some (.int .i64 sq) ∧ w'.cell? ⟨w.heap.size, 18, none⟩ = some (.slice (some ⟨g, off, none⟩) n c) ∧ w'.cell? ⟨g, off + K * 3, none⟩ = some (.int .i64 y.dev) ∧ w'.cell? ⟨g, off + K * 3 + 1, none⟩ = some (.int .i64 y.inc) ∧ w'.cell? ⟨g, off + K * 3 + 2, none⟩ = some (.int .i64 y.seq)) (by kernel_rfl) (hS0 _ hB1) (fun hHeld => ?_)
                first | (refine tR (i := 0) rfl rfl ?_) | (refine tL (i := 0) (v := ?vl6x0) rfl ?hyl6x0 ?rl6x0; case hyl6x0 => (rintro w' ⟨hs0, hs1, hs2, hs3, hs4, hs5, hs6, hs7, hs8, hs9⟩; go_simp; try with_reducible rfl))
                try simp only [gA, gB, Act.put, gD, gE, gF]
                refine wpAnyH_ready (rs := [1]) (by kernel_rfl) (by simp) ?_
                refine AllReadyH.cons (o := _) rfl (fun K hK => ?_) AllReadyH.nil
                go_simp
                go_at_call 86; (with_reducible refine (HRx _).mono ?_); rintro e7 w7 ⟨rfl, hx7⟩; have hB1 := hB1.trans (hx7.mono hB1.size); clear hx7
                dsimp only
                refine hK.out _ _ (hS0 _ hB1) (fun hHeld => ?_)
                clear hK K
                try simp only [gA, gB, gC, Act.put, gD, gE, gF]
                first | (refine tR (i := 2) rfl rfl ?_) | (refine tL (i := 2) (v := ?vl6x2) rfl ?hyl6x2 ?rl6x2; case hyl6x2 => (rintro w' ⟨hs0, hs1, hs2, hs3, hs4, hs5, hs6, hs7, hs8, hs9⟩; go_simp; try with_reducible rfl))
                try simp only [gA, gB, gC, Act.put, gD, gE, gF]
                first | (refine tR (i := 3) rfl rfl ?_) | (refine tL (i := 3) (v := ?vl6x3) rfl ?hyl6x3 ?rl6x3; case hyl6x3 => (rintro w' ⟨hs0, hs1, hs2, hs3, hs4, hs5, hs6, hs7, hs8, hs9⟩; go_simp; try with_reducible rfl))
                try simp only [gA, gB, gC, Act.put, gD, gE, gF]
                first | (refine tR (i := 4) rfl rfl ?_) | (refine tL (i := 4) (v := ?vl6x4) rfl ?hyl6x4 ?rl6x4; case hyl6x4 => (rintro w' ⟨hs0, hs1, hs2, hs3, hs4, hs5, hs6, hs7, hs8, hs9⟩; go_simp; try with_reducible rfl))
                try simp only [gA, gB, gC, Act.put, gD, gE, gF]
                first | (refine tR (i := 5) rfl rfl ?_) | (refine tL (i := 5) (v := ?vl6x5) rfl ?hyl6x5 ?rl6x5; case hyl6x5 => (rintro w' ⟨hs0, hs1, hs2, hs3, hs4, hs5, hs6, hs7, hs8, hs9⟩; go_simp; try with_reducible rfl))
                try simp only [gA, gB, gC, Act.put, gD, gE, gF]
                first | (refine tR (i := 6) rfl rfl ?_) | (refine tL (i := 6) (v := ?vl6x6) rfl ?hyl6x6 ?rl6x6; case hyl6x6 => (rintro w' ⟨hs0, hs1, hs2, hs3, hs4, hs5, hs6, hs7, hs8, hs9⟩; go_simp; try with_reducible rfl))
                try simp only [gA, gB, gC, Act.put, gD, gE, gF]
                first | (refine tR (i := 7) rfl rfl ?_) | (refine tL (i := 7) (v := ?vl6x7) rfl ?hyl6x7 ?rl6x7; case hyl6x7 => (rintro w' ⟨hs0, hs1, hs2, hs3, hs4, hs5, hs6, hs7, hs8, hs9⟩; go_simp; try with_reducible rfl))
                try simp only [gA, gB, gC, Act.put, gD, gE, gF]
                first | (refine tR (i := 8) rfl rfl ?_) | (refine tL (i := 8) (v := ?vl6x8) rfl ?hyl6x8 ?rl6x8; case hyl6x8 => (rintro w' ⟨hs0, hs1, hs2, hs3, hs4, hs5, hs6, hs7, hs8, hs9⟩; go_simp; try with_reducible rfl))
                try simp only [gA, gB, gC, Act.put, gD, gE, gF]
                first | (refine tR (i := 9) rfl rfl ?_) | (refine tL (i := 9) (v := ?vl6x9) rfl ?hyl6x9 ?rl6x9; case hyl6x9 => (rintro w' ⟨hs0, hs1, hs2, hs3, hs4, hs5, hs6, hs7, hs8, hs9⟩; go_simp; try with_reducible rfl))
                try simp only [gA, gB, gC, Act.put, gD, gE, gF]
                first | (refine tR (i := 10) rfl rfl ?_) | (refine tL (i := 10) (v := ?vl6x10) rfl ?hyl6x10 ?rl6x10; case hyl6x10 => (rintro w' ⟨hs0, hs1, hs2, hs3, hs4, hs5, hs6, hs7, hs8, hs9⟩; go_simp; try with_reducible rfl))
                try simp only [gA, gB, gC, Act.put, gD, gE, gF]
                first | (refine tR (i := 11) rfl rfl ?_) | (refine tL (i := 11) (v := ?vl6x11) rfl ?hyl6x11 ?rl6x11; case hyl6x11 => (rintro w' ⟨hs0, hs1, hs2, hs3, hs4, hs5, hs6, hs7, hs8, hs9⟩; go_simp; try with_reducible rfl))
                try simp only [gA, gB, gC, Act.put, gD, gE, gF]
                first | (refine tR (i := 12) rfl rfl ?_) | (refine tL (i := 12) (v := ?vl6x12) rfl ?hyl6x12 ?rl6x12; case hyl6x12 => (rintro w' ⟨hs0, hs1, hs2, hs3, hs4, hs5, hs6, hs7, hs8, hs9⟩; go_simp; try with_reducible rfl))
                try simp only [gA, gB, gC, Act.put, gD, gE, gF]
                first | (refine tR (i := 13) rfl rfl ?_) | (refine tL (i := 13) (v := ?vl6x13) rfl ?hyl6x13 ?rl6x13; case hyl6x13 => (rintro w' ⟨hs0, hs1, hs2, hs3, hs4, hs5, hs6, hs7, hs8, hs9⟩; go_simp; try with_reducible rfl))
                try simp only [gA, gB, gC, Act.put, gD, gE, gF]
                refine wpAnyH_ready (rs := [14]) (by kernel_rfl) (by simp) ?_
                refine AllReadyH.cons (o := _) rfl (fun K hK => ?_) AllReadyH.nil
                go_simp
                go_at_call 101; (with_reducible refine (HLx _).mono ?_); rintro e8 w8 ⟨rfl, hx8⟩; have hB1 := hB1.trans (hx8.mono hB1.size); clear hx8
                dsimp only
                refine hK.out _ _ (hS0 _ hB1) (fun hHeld => ?_)
                clear hK K
                try simp only [gA, gB, gC, Act.put, gD, gE, gF]
                first | (refine tR (i := 15) rfl rfl ?_) | (refine tL (i := 15) (v := ?vl6x15) rfl ?hyl6x15 ?rl6x15; case hyl6x15 => (rintro w' ⟨hs0, hs1, hs2, hs3, hs4, hs5, hs6, hs7, hs8, hs9⟩; go_simp; try with_reducible rfl))
                try simp only [gA, gB, gC, Act.put, gD, gE, gF]
                first | (refine tR (i := 16) rfl rfl ?_) | (refine tL (i := 16) (v := ?vl6x16) rfl ?hyl6x16 ?rl6x16; case hyl6x16 => (rintro w' ⟨hs0, hs1, hs2, hs3, hs4, hs5, hs6, hs7, hs8, hs9⟩; go_simp; try with_reducible rfl))
                try simp only [gA, gB, gC, Act.put, gD, gE, gF]
                first | (refine tR (i := 17) rfl rfl ?_) | (refine tL (i := 17) (v := ?vl6x17) rfl ?hyl6x17 ?rl6x17; case hyl6x17 => (rintro w' ⟨hs0, hs1, hs2, hs3, hs4, hs5, hs6, hs7, hs8, hs9⟩; go_simp; try with_reducible rfl))
                try simp only [gA, gB, gC, Act.put, gD, gE, gF]
                first | (refine tR (i := 18) rfl rfl ?_) | (refine tL (i := 18) (v := ?vl6x18) rfl ?hyl6x18 ?rl6x18; case hyl6x18 => (rintro w' ⟨hs0, hs1, hs2, hs3, hs4, hs5, hs6, hs7, hs8, hs9⟩; go_simp; try with_reducible rfl))
                try simp only [gA, gB, gC, Act.put, gD, gE, gF]
                first | (refine tR (i := 19) rfl rfl ?_) | (refine tL (i := 19) (v := ?vl6x19) rfl ?hyl6x19 ?rl6x19; case hyl6x19 => (rintro w' ⟨hs0, hs1, hs2, hs3, hs4, hs5, hs6, hs7, hs8, hs9⟩; go_simp; try with_reducible rfl))
                try simp only [gA, gB, gC, Act.put, gD, gE, gF]
                first | (refine tR (i := 20) rfl rfl ?_) | (refine tL (i := 20) (v := ?vl6x20) rfl ?hyl6x20 ?rl6x20; case hyl6x20 => (rintro w' ⟨hs0, hs1, hs2, hs3, hs4, hs5, hs6, hs7, hs8, hs9⟩; go_simp; try with_reducible rfl))
                try simp only [gA, gB, gC, Act.put, gD, gE, gF]
                first | (refine tR (i := 21) rfl rfl ?_) | (refine tL (i := 21) (v := ?vl6x21) rfl ?hyl6x21 ?rl6x21; case hyl6x21 => (rintro w' ⟨hs0, hs1, hs2, hs3, hs4, hs5, hs6, hs7, hs8, hs9⟩; go_simp; try with_reducible rfl))
                try simp only [gA, gB, gC, Act.put, gD, gE, gF]
                first | (refine tR (i := 22) rfl rfl ?_) | (refine tL (i := 22) (v := ?vl6x22) rfl ?hyl6x22 ?rl6x22; case hyl6x22 => (rintro w' ⟨hs0, hs1, hs2, hs3, hs4, hs5, hs6, hs7, hs8, hs9⟩; go_simp; try with_reducible rfl))
                try simp only [gA, gB, gC, Act.put, gD, gE, gF]
                first | (refine tR (i := 23) rfl rfl ?_) | (refine tL (i := 23) (v := ?vl6x23) rfl ?hyl6x23 ?rl6x23; case hyl6x23 => (rintro w' ⟨hs0, hs1, hs2, hs3, hs4, hs5, hs6, hs7, hs8, hs9⟩; go_simp; try with_reducible rfl))
                try simp only [gA, gB, gC, Act.put, gD, gE, gF]
                first | (refine tR (i := 24) rfl rfl ?_) | (refine tL (i := 24) (v := ?vl6x24) rfl ?hyl6x24 ?rl6x24; case hyl6x24 => (rintro w' ⟨hs0, hs1, hs2, hs3, hs4, hs5, hs6, hs7, hs8, hs9⟩; go_simp; try with_reducible rfl))
                try simp only [gA, gB, gC, Act.put, gD, gE, gF]
                first | (refine tR (i := 25) rfl rfl ?_) | (refine tL (i := 25) (v := ?vl6x25) rfl ?hyl6x25 ?rl6x25; case hyl6x25 => (rintro w' ⟨hs0, hs1, hs2, hs3, hs4, hs5, hs6, hs7, hs8, hs9⟩; go_simp; try with_reducible rfl))
                try simp only [gA, gB, gC, Act.put, gD, gE, gF]
                first | (refine tR (i := 26) rfl rfl ?_) | (refine tL (i := 26) (v := ?vl6x26) rfl ?hyl6x26 ?rl6x26; case hyl6x26 => (rintro w' ⟨hs0, hs1, hs2, hs3, hs4, hs5, hs6, hs7, hs8, hs9⟩; go_simp; try with_reducible rfl))
                try simp only [gA, gB, gC, Act.put, gD, gE, gF]
                first | (refine tR (i := 27) rfl rfl ?_) | (refine tL (i := 27) (v := ?vl6x27) rfl ?hyl6x27 ?rl6x27; case hyl6x27 => (rintro w' ⟨hs0, hs1, hs2, hs3, hs4, hs5, hs6, hs7, hs8, hs9⟩; go_simp; try with_reducible rfl))
                try simp only [gA, gB, gC, Act.put, gD, gE, gF]
                first | (refine tR (i := 28) rfl rfl ?_) | (refine tL (i := 28) (v := ?vl6x28) rfl ?hyl6x28 ?rl6x28; case hyl6x28 => (rintro w' ⟨hs0, hs1, hs2, hs3, hs4, hs5, hs6, hs7, hs8, hs9⟩; go_simp; try with_reducible rfl))
                try simp only [gA, gB, gC, Act.put, gD, gE, gF]
                first | (refine tR (i := 29) rfl rfl ?_) | (refine tL (i := 29) (v := ?vl6x29) rfl ?hyl6x29 ?rl6x29; case hyl6x29 => (rintro w' ⟨hs0, hs1, hs2, hs3, hs4, hs5, hs6, hs7, hs8, hs9⟩; go_simp; try with_reducible rfl))
                try simp only [gA, gB, gC, Act.put, gD, gE, gF]
                first | (refine tR (i := 30) rfl rfl ?_) | (refine tL (i := 30) (v := ?vl6x30) rfl ?hyl6x30 ?rl6x30; case hyl6x30 => (rintro w' ⟨hs0, hs1, hs2, hs3, hs4, hs5, hs6, hs7, hs8, hs9⟩; go_simp; try with_reducible rfl))
                try simp only [gA, gB, gC, Act.put, gD, gE, gF]
                first | (refine tR (i := 31) rfl rfl ?_) | (refine tL (i := 31) (v := ?vl6x31) rfl ?hyl6x31 ?rl6x31; case hyl6x31 => (rintro w' ⟨hs0, hs1, hs2, hs3, hs4, hs5, hs6, hs7, hs8, hs9⟩; go_simp; try with_reducible rfl))
                try simp only [gA, gB, gC, Act.put, gD, gE, gF]
                first | (refine tR (i := 32) rfl rfl ?_) | (refine tL (i := 32) (v := ?vl6x32) rfl ?hyl6x32 ?rl6x32; case hyl6x32 => (rintro w' ⟨hs0, hs1, hs2, hs3, hs4, hs5, hs6, hs7, hs8, hs9⟩; go_simp; try with_reducible rfl))
                try simp only [gA, gB, gC, Act.put, gD, gE, gF]
                first | (refine tR (i := 33) rfl rfl ?_) | (refine tL (i := 33) (v := ?vl6x33) rfl ?hyl6x33 ?rl6x33; case hyl6x33 => (rintro w' ⟨hs0, hs1, hs2, hs3, hs4, hs5, hs6, hs7, hs8, hs9⟩; go_simp; try with_reducible rfl))
                try simp only [gA, gB, gC, Act.put, gD, gE, gF]
                refine wpAnyH_done (by kernel_rfl) ?_ _
                all_goals (
                  go_wp2
                  go_ret
                  exact ⟨by rw [E.out, hno.out hok.out]; rfl, (hS3.below hB1).hb⟩)
              | true =>
                rw [hl] at HLx
                cases hA : (x.dev == sd && x.inc == i) with
                | false =>
                  have hok : Hid (okO ov ⟨sd, i, sq⟩ (K + 1) = true) := by unfold Hid okO; rw [hget]; rw [hr, show K + 1 - 1 = K from rfl, hgetp, hl, hA]; simp
                  have hEA := fun v => eqActor x.dev x.inc sd i v
                  rw [hA] at hEA
                  refine wp_region_held_drew (S := fun w' => w'.cell? ⟨wr.heap.size, 0, none⟩ = some (.int .i64 x.dev) ∧ w'.cell? ⟨wr.heap.size, 1, none⟩ = some (.int .i64 x.inc) ∧ w'.cell? ⟨wr.heap.size, 2, none⟩ = some (.int .i64 x.seq) ∧ w'.cell? ⟨w.heap.size, 0, none⟩ = some (.int .i64 sd) ∧ w'.cell? ⟨w.heap.size, 1, none⟩ = some (.int .i64 i) ∧ w'.cell? ⟨w.heap.size, 2, none⟩ = some (.int .i64 sq) ∧ w'.cell? ⟨w.heap.size, 18, none⟩ = some (.slice (some ⟨g, off, none⟩) n c) ∧ w'.cell? ⟨g, off + K * 3, none⟩ = some (.int .i64 y.dev) ∧ w'.cell? ⟨g, off + K * 3 + 1, none⟩ = some (.int .i64 y.inc) ∧ w'.cell? ⟨g, off + K * 3 + 2, none⟩ = some (.int .i64 y.seq)) (by kernel_rfl) (hS0 _ hB1) (fun hHeld => ?_)
                  first | (refine tR (i := 0) rfl rfl ?_) | (refine tL (i := 0) (v := ?vl7x0) rfl ?hyl7x0 ?rl7x0; case hyl7x0 => (rintro w' ⟨hs0, hs1, hs2, hs3, hs4, hs5, hs6, hs7, hs8, hs9⟩; go_simp; try with_reducible rfl))
                  try simp only [gA, gB, Act.put, gD, gE, gF]
                  refine wpAnyH_ready (rs := [1]) (by kernel_rfl) (by simp) ?_
                  refine AllReadyH.cons (o := _) rfl (fun K hK => ?_) AllReadyH.nil
                  go_simp
                  go_at_call 86; (with_reducible refine (HRx _).mono ?_); rintro e7 w7 ⟨rfl, hx7⟩; have hB1 := hB1.trans (hx7.mono hB1.size); clear hx7
                  dsimp only
                  refine hK.out _ _ (hS0 _ hB1) (fun hHeld => ?_)
                  clear hK K
                  try simp only [gA, gB, gC, Act.put, gD, gE, gF]
                  first | (refine tR (i := 2) rfl rfl ?_) | (refine tL (i := 2) (v := ?vl7x2) rfl ?hyl7x2 ?rl7x2; case hyl7x2 => (rintro w' ⟨hs0, hs1, hs2, hs3, hs4, hs5, hs6, hs7, hs8, hs9⟩; go_simp; try with_reducible rfl))
                  try simp only [gA, gB, gC, Act.put, gD, gE, gF]
                  first | (refine tR (i := 3) rfl rfl ?_) | (refine tL (i := 3) (v := ?vl7x3) rfl ?hyl7x3 ?rl7x3; case hyl7x3 => (rintro w' ⟨hs0, hs1, hs2, hs3, hs4, hs5, hs6, hs7, hs8, hs9⟩; go_simp; try with_reducible rfl))
                  try simp only [gA, gB, gC, Act.put, gD, gE, gF]
                  first | (refine tR (i := 4) rfl rfl ?_) | (refine tL (i := 4) (v := ?vl7x4) rfl ?hyl7x4 ?rl7x4; case hyl7x4 => (rintro w' ⟨hs0, hs1, hs2, hs3, hs4, hs5, hs6, hs7, hs8, hs9⟩; go_simp; try with_reducible rfl))
                  try simp only [gA, gB, gC, Act.put, gD, gE, gF]
                  first | (refine tR (i := 5) rfl rfl ?_) | (refine tL (i := 5) (v := ?vl7x5) rfl ?hyl7x5 ?rl7x5; case hyl7x5 => (rintro w' ⟨hs0, hs1, hs2, hs3, hs4, hs5, hs6, hs7, hs8, hs9⟩; go_simp; try with_reducible rfl))
                  try simp only [gA, gB, gC, Act.put, gD, gE, gF]
                  first | (refine tR (i := 6) rfl rfl ?_) | (refine tL (i := 6) (v := ?vl7x6) rfl ?hyl7x6 ?rl7x6; case hyl7x6 => (rintro w' ⟨hs0, hs1, hs2, hs3, hs4, hs5, hs6, hs7, hs8, hs9⟩; go_simp; try with_reducible rfl))
                  try simp only [gA, gB, gC, Act.put, gD, gE, gF]
                  first | (refine tR (i := 7) rfl rfl ?_) | (refine tL (i := 7) (v := ?vl7x7) rfl ?hyl7x7 ?rl7x7; case hyl7x7 => (rintro w' ⟨hs0, hs1, hs2, hs3, hs4, hs5, hs6, hs7, hs8, hs9⟩; go_simp; try with_reducible rfl))
                  try simp only [gA, gB, gC, Act.put, gD, gE, gF]
                  first | (refine tR (i := 8) rfl rfl ?_) | (refine tL (i := 8) (v := ?vl7x8) rfl ?hyl7x8 ?rl7x8; case hyl7x8 => (rintro w' ⟨hs0, hs1, hs2, hs3, hs4, hs5, hs6, hs7, hs8, hs9⟩; go_simp; try with_reducible rfl))
                  try simp only [gA, gB, gC, Act.put, gD, gE, gF]
                  first | (refine tR (i := 9) rfl rfl ?_) | (refine tL (i := 9) (v := ?vl7x9) rfl ?hyl7x9 ?rl7x9; case hyl7x9 => (rintro w' ⟨hs0, hs1, hs2, hs3, hs4, hs5, hs6, hs7, hs8, hs9⟩; go_simp; try with_reducible rfl))
                  try simp only [gA, gB, gC, Act.put, gD, gE, gF]
                  first | (refine tR (i := 10) rfl rfl ?_) | (refine tL (i := 10) (v := ?vl7x10) rfl ?hyl7x10 ?rl7x10; case hyl7x10 => (rintro w' ⟨hs0, hs1, hs2, hs3, hs4, hs5, hs6, hs7, hs8, hs9⟩; go_simp; try with_reducible rfl))
                  try simp only [gA, gB, gC, Act.put, gD, gE, gF]
                  first | (refine tR (i := 11) rfl rfl ?_) | (refine tL (i := 11) (v := ?vl7x11) rfl ?hyl7x11 ?rl7x11; case hyl7x11 => (rintro w' ⟨hs0, hs1, hs2, hs3, hs4, hs5, hs6, hs7, hs8, hs9⟩; go_simp; try with_reducible rfl))
                  try simp only [gA, gB, gC, Act.put, gD, gE, gF]
                  first | (refine tR (i := 12) rfl rfl ?_) | (refine tL (i := 12) (v := ?vl7x12) rfl ?hyl7x12 ?rl7x12; case hyl7x12 => (rintro w' ⟨hs0, hs1, hs2, hs3, hs4, hs5, hs6, hs7, hs8, hs9⟩; go_simp; try with_reducible rfl))
                  try simp only [gA, gB, gC, Act.put, gD, gE, gF]
                  first | (refine tR (i := 13) rfl rfl ?_) | (refine tL (i := 13) (v := ?vl7x13) rfl ?hyl7x13 ?rl7x13; case hyl7x13 => (rintro w' ⟨hs0, hs1, hs2, hs3, hs4, hs5, hs6, hs7, hs8, hs9⟩; go_simp; try with_reducible rfl))
                  try simp only [gA, gB, gC, Act.put, gD, gE, gF]
                  refine wpAnyH_ready (rs := [14]) (by kernel_rfl) (by simp) ?_
                  refine AllReadyH.cons (o := _) rfl (fun K hK => ?_) AllReadyH.nil
                  go_simp
                  go_at_call 101; (with_reducible refine (HLx _).mono ?_); rintro e8 w8 ⟨rfl, hx8⟩; have hB1 := hB1.trans (hx8.mono hB1.size); clear hx8
                  dsimp only
                  refine hK.out _ _ (hS0 _ hB1) (fun hHeld => ?_)
                  clear hK K
                  try simp only [gA, gB, gC, Act.put, gD, gE, gF]
                  first | (refine tR (i := 15) rfl rfl ?_) | (refine tL (i := 15) (v := ?vl7x15) rfl ?hyl7x15 ?rl7x15; case hyl7x15 => (rintro w' ⟨hs0, hs1, hs2, hs3, hs4, hs5, hs6, hs7, hs8, hs9⟩; go_simp; try with_reducible rfl))
                  try simp only [gA, gB, gC, Act.put, gD, gE, gF]
                  first | (refine tR (i := 16) rfl rfl ?_) | (refine tL (i := 16) (v := ?vl7x16) rfl ?hyl7x16 ?rl7x16; case hyl7x16 => (rintro w' ⟨hs0, hs1, hs2, hs3, hs4, hs5, hs6, hs7, hs8, hs9⟩; go_simp; try with_reducible rfl))
                  try simp only [gA, gB, gC, Act.put, gD, gE, gF]
                  first | (refine tR (i := 17) rfl rfl ?_) | (refine tL (i := 17) (v := ?vl7x17) rfl ?hyl7x17 ?rl7x17; case hyl7x17 => (rintro w' ⟨hs0, hs1, hs2, hs3, hs4, hs5, hs6, hs7, hs8, hs9⟩; go_simp; try with_reducible rfl))
                  try simp only [gA, gB, gC, Act.put, gD, gE, gF]
                  first | (refine tR (i := 18) rfl rfl ?_) | (refine tL (i := 18) (v := ?vl7x18) rfl ?hyl7x18 ?rl7x18; case hyl7x18 => (rintro w' ⟨hs0, hs1, hs2, hs3, hs4, hs5, hs6, hs7, hs8, hs9⟩; go_simp; try with_reducible rfl))
                  try simp only [gA, gB, gC, Act.put, gD, gE, gF]
                  first | (refine tR (i := 19) rfl rfl ?_) | (refine tL (i := 19) (v := ?vl7x19) rfl ?hyl7x19 ?rl7x19; case hyl7x19 => (rintro w' ⟨hs0, hs1, hs2, hs3, hs4, hs5, hs6, hs7, hs8, hs9⟩; go_simp; try with_reducible rfl))
                  try simp only [gA, gB, gC, Act.put, gD, gE, gF]
                  first | (refine tR (i := 20) rfl rfl ?_) | (refine tL (i := 20) (v := ?vl7x20) rfl ?hyl7x20 ?rl7x20; case hyl7x20 => (rintro w' ⟨hs0, hs1, hs2, hs3, hs4, hs5, hs6, hs7, hs8, hs9⟩; go_simp; try with_reducible rfl))
                  try simp only [gA, gB, gC, Act.put, gD, gE, gF]
                  first | (refine tR (i := 21) rfl rfl ?_) | (refine tL (i := 21) (v := ?vl7x21) rfl ?hyl7x21 ?rl7x21; case hyl7x21 => (rintro w' ⟨hs0, hs1, hs2, hs3, hs4, hs5, hs6, hs7, hs8, hs9⟩; go_simp; try with_reducible rfl))
                  try simp only [gA, gB, gC, Act.put, gD, gE, gF]
                  first | (refine tR (i := 22) rfl rfl ?_) | (refine tL (i := 22) (v := ?vl7x22) rfl ?hyl7x22 ?rl7x22; case hyl7x22 => (rintro w' ⟨hs0, hs1, hs2, hs3, hs4, hs5, hs6, hs7, hs8, hs9⟩; go_simp; try with_reducible rfl))
                  try simp only [gA, gB, gC, Act.put, gD, gE, gF]
                  first | (refine tR (i := 23) rfl rfl ?_) | (refine tL (i := 23) (v := ?vl7x23) rfl ?hyl7x23 ?rl7x23; case hyl7x23 => (rintro w' ⟨hs0, hs1, hs2, hs3, hs4, hs5, hs6, hs7, hs8, hs9⟩; go_simp; try with_reducible rfl))
                  try simp only [gA, gB, gC, Act.put, gD, gE, gF]
                  first | (refine tR (i := 24) rfl rfl ?_) | (refine tL (i := 24) (v := ?vl7x24) rfl ?hyl7x24 ?rl7x24; case hyl7x24 => (rintro w' ⟨hs0, hs1, hs2, hs3, hs4, hs5, hs6, hs7, hs8, hs9⟩; go_simp; try with_reducible rfl))
                  try simp only [gA, gB, gC, Act.put, gD, gE, gF]
                  first | (refine tR (i := 25) rfl rfl ?_) | (refine tL (i := 25) (v := ?vl7x25) rfl ?hyl7x25 ?rl7x25; case hyl7x25 => (rintro w' ⟨hs0, hs1, hs2, hs3, hs4, hs5, hs6, hs7, hs8, hs9⟩; go_simp; try with_reducible rfl))
                  try simp only [gA, gB, gC, Act.put, gD, gE, gF]
                  first | (refine tR (i := 26) rfl rfl ?_) | (refine tL (i := 26) (v := ?vl7x26) rfl ?hyl7x26 ?rl7x26; case hyl7x26 => (rintro w' ⟨hs0, hs1, hs2, hs3, hs4, hs5, hs6, hs7, hs8, hs9⟩; go_simp; try with_reducible rfl))
                  try simp only [gA, gB, gC, Act.put, gD, gE, gF]
                  first | (refine tR (i := 27) rfl rfl ?_) | (refine tL (i := 27) (v := ?vl7x27) rfl ?hyl7x27 ?rl7x27; case hyl7x27 => (rintro w' ⟨hs0, hs1, hs2, hs3, hs4, hs5, hs6, hs7, hs8, hs9⟩; go_simp; try with_reducible rfl))
                  try simp only [gA, gB, gC, Act.put, gD, gE, gF]
                  first | (refine tR (i := 28) rfl rfl ?_) | (refine tL (i := 28) (v := ?vl7x28) rfl ?hyl7x28 ?rl7x28; case hyl7x28 => (rintro w' ⟨hs0, hs1, hs2, hs3, hs4, hs5, hs6, hs7, hs8, hs9⟩; go_simp; try with_reducible rfl))
                  try simp only [gA, gB, gC, Act.put, gD, gE, gF]
                  first | (refine tR (i := 29) rfl rfl ?_) | (refine tL (i := 29) (v := ?vl7x29) rfl ?hyl7x29 ?rl7x29; case hyl7x29 => (rintro w' ⟨hs0, hs1, hs2, hs3, hs4, hs5, hs6, hs7, hs8, hs9⟩; go_simp; try with_reducible rfl))
                  try simp only [gA, gB, gC, Act.put, gD, gE, gF]
                  first | (refine tR (i := 30) rfl rfl ?_) | (refine tL (i := 30) (v := ?vl7x30) rfl ?hyl7x30 ?rl7x30; case hyl7x30 => (rintro w' ⟨hs0, hs1, hs2, hs3, hs4, hs5, hs6, hs7, hs8, hs9⟩; go_simp; try with_reducible rfl))
                  try simp only [gA, gB, gC, Act.put, gD, gE, gF]
                  first | (refine tR (i := 31) rfl rfl ?_) | (refine tL (i := 31) (v := ?vl7x31) rfl ?hyl7x31 ?rl7x31; case hyl7x31 => (rintro w' ⟨hs0, hs1, hs2, hs3, hs4, hs5, hs6, hs7, hs8, hs9⟩; go_simp; try with_reducible rfl))
                  try simp only [gA, gB, gC, Act.put, gD, gE, gF]
                  first | (refine tR (i := 32) rfl rfl ?_) | (refine tL (i := 32) (v := ?vl7x32) rfl ?hyl7x32 ?rl7x32; case hyl7x32 => (rintro w' ⟨hs0, hs1, hs2, hs3, hs4, hs5, hs6, hs7, hs8, hs9⟩; go_simp; try with_reducible rfl))
                  try simp only [gA, gB, gC, Act.put, gD, gE, gF]
                  first | (refine tR (i := 33) rfl rfl ?_) | (refine tL (i := 33) (v := ?vl7x33) rfl ?hyl7x33 ?rl7x33; case hyl7x33 => (rintro w' ⟨hs0, hs1, hs2, hs3, hs4, hs5, hs6, hs7, hs8, hs9⟩; go_simp; try with_reducible rfl))
                  try simp only [gA, gB, gC, Act.put, gD, gE, gF]
                  refine wpAnyH_done (by kernel_rfl) ?_ _
                  all_goals (
                    go_wp2
                    go_roundw
                    case rel => exact ⟨(K + 1) + 1, by omega, by go_num, hyes.out hok.out, hS3.below hB1⟩
                    case measure => simp [intOf]; omega)
                | true =>
                  have hEA := fun v => eqActor x.dev x.inc sd i v
                  rw [hA] at hEA
                  by_cases hG : sq ≤ x.seq
                  · have hok : Hid (okO ov ⟨sd, i, sq⟩ (K + 1) = false) := by unfold Hid okO; rw [hget]; rw [hr, show K + 1 - 1 = K from rfl, hgetp, hl, hA, decide_eq_true hG]; simp
                    refine wp_region_held_drew (S := fun w' => w'.cell? ⟨wr.heap.size, 0, none⟩ = some (.int .i64 x.dev) ∧ w'.cell? ⟨wr.heap.size, 1, none⟩ = some (.int .i64 x.inc) ∧ w'.cell? ⟨wr.heap.size, 2, none⟩ = some (.int .i64 x.seq) ∧ w'.cell? ⟨w.heap.size, 0, none⟩ = some (.int .i64 sd) ∧ w'.cell? ⟨w.heap.size, 1, none⟩ = some (.int .i64 i) ∧ w'.cell? ⟨w.heap.size, 2, none⟩ = some (.int .i64 sq) ∧ w'.cell? ⟨w.heap.size, 18, none⟩ = some (.slice (some ⟨g, off, none⟩) n c) ∧ w'.cell? ⟨g, off + K * 3, none⟩ = some (.int .i64 y.dev) ∧ w'.cell? ⟨g, off + K * 3 + 1, none⟩ = some (.int .i64 y.inc) ∧ w'.cell? ⟨g, off + K * 3 + 2, none⟩ = some (.int .i64 y.seq)) (by kernel_rfl) (hS0 _ hB1) (fun hHeld => ?_)
                    first | (refine tR (i := 0) rfl rfl ?_) | (refine tL (i := 0) (v := ?vl8x0) rfl ?hyl8x0 ?rl8x0; case hyl8x0 => (rintro w' ⟨hs0, hs1, hs2, hs3, hs4, hs5, hs6, hs7, hs8, hs9⟩; go_simp; try with_reducible rfl))
                    try simp only [gA, gB, Act.put, gD, gE, gF]
                    refine wpAnyH_ready (rs := [1]) (by kernel_rfl) (by simp) ?_
                    refine AllReadyH.cons (o := _) rfl (fun K hK => ?_) AllReadyH.nil
                    go_simp
                    go_at_call 86; (with_reducible refine (HRx _).mono ?_); rintro e7 w7 ⟨rfl, hx7⟩; have hB1 := hB1.trans (hx7.mono hB1.size); clear hx7
                    dsimp only
                    refine hK.out _ _ (hS0 _ hB1) (fun hHeld => ?_)
                    clear hK K
                    try simp only [gA, gB, gC, Act.put, gD, gE, gF]
                    first | (refine tR (i := 2) rfl rfl ?_) | (refine tL (i := 2) (v := ?vl8x2) rfl ?hyl8x2 ?rl8x2; case hyl8x2 => (rintro w' ⟨hs0, hs1, hs2, hs3, hs4, hs5, hs6, hs7, hs8, hs9⟩; go_simp; try with_reducible rfl))
                    try simp only [gA, gB, gC, Act.put, gD, gE, gF]
                    first | (refine tR (i := 3) rfl rfl ?_) | (refine tL (i := 3) (v := ?vl8x3) rfl ?hyl8x3 ?rl8x3; case hyl8x3 => (rintro w' ⟨hs0, hs1, hs2, hs3, hs4, hs5, hs6, hs7, hs8, hs9⟩; go_simp; try with_reducible rfl))
                    try simp only [gA, gB, gC, Act.put, gD, gE, gF]
                    first | (refine tR (i := 4) rfl rfl ?_) | (refine tL (i := 4) (v := ?vl8x4) rfl ?hyl8x4 ?rl8x4; case hyl8x4 => (rintro w' ⟨hs0, hs1, hs2, hs3, hs4, hs5, hs6, hs7, hs8, hs9⟩; go_simp; try with_reducible rfl))
                    try simp only [gA, gB, gC, Act.put, gD, gE, gF]
                    first | (refine tR (i := 5) rfl rfl ?_) | (refine tL (i := 5) (v := ?vl8x5) rfl ?hyl8x5 ?rl8x5; case hyl8x5 => (rintro w' ⟨hs0, hs1, hs2, hs3, hs4, hs5, hs6, hs7, hs8, hs9⟩; go_simp; try with_reducible rfl))
                    try simp only [gA, gB, gC, Act.put, gD, gE, gF]
                    first | (refine tR (i := 6) rfl rfl ?_) | (refine tL (i := 6) (v := ?vl8x6) rfl ?hyl8x6 ?rl8x6; case hyl8x6 => (rintro w' ⟨hs0, hs1, hs2, hs3, hs4, hs5, hs6, hs7, hs8, hs9⟩; go_simp; try with_reducible rfl))
                    try simp only [gA, gB, gC, Act.put, gD, gE, gF]
                    first | (refine tR (i := 7) rfl rfl ?_) | (refine tL (i := 7) (v := ?vl8x7) rfl ?hyl8x7 ?rl8x7; case hyl8x7 => (rintro w' ⟨hs0, hs1, hs2, hs3, hs4, hs5, hs6, hs7, hs8, hs9⟩; go_simp; try with_reducible rfl))
                    try simp only [gA, gB, gC, Act.put, gD, gE, gF]
                    first | (refine tR (i := 8) rfl rfl ?_) | (refine tL (i := 8) (v := ?vl8x8) rfl ?hyl8x8 ?rl8x8; case hyl8x8 => (rintro w' ⟨hs0, hs1, hs2, hs3, hs4, hs5, hs6, hs7, hs8, hs9⟩; go_simp; try with_reducible rfl))
                    try simp only [gA, gB, gC, Act.put, gD, gE, gF]
                    first | (refine tR (i := 9) rfl rfl ?_) | (refine tL (i := 9) (v := ?vl8x9) rfl ?hyl8x9 ?rl8x9; case hyl8x9 => (rintro w' ⟨hs0, hs1, hs2, hs3, hs4, hs5, hs6, hs7, hs8, hs9⟩; go_simp; try with_reducible rfl))
                    try simp only [gA, gB, gC, Act.put, gD, gE, gF]
                    first | (refine tR (i := 10) rfl rfl ?_) | (refine tL (i := 10) (v := ?vl8x10) rfl ?hyl8x10 ?rl8x10; case hyl8x10 => (rintro w' ⟨hs0, hs1, hs2, hs3, hs4, hs5, hs6, hs7, hs8, hs9⟩; go_simp; try with_reducible rfl))
                    try simp only [gA, gB, gC, Act.put, gD, gE, gF]
                    first | (refine tR (i := 11) rfl rfl ?_) | (refine tL (i := 11) (v := ?vl8x11) rfl ?hyl8x11 ?rl8x11; case hyl8x11 => (rintro w' ⟨hs0, hs1, hs2, hs3, hs4, hs5, hs6, hs7, hs8, hs9⟩; go_simp; try with_reducible rfl))
                    try simp only [gA, gB, gC, Act.put, gD, gE, gF]
                    first | (refine tR (i := 12) rfl rfl ?_) | (refine tL (i := 12) (v := ?vl8x12) rfl ?hyl8x12 ?rl8x12; case hyl8x12 => (rintro w' ⟨hs0, hs1, hs2, hs3, hs4, hs5, hs6, hs7, hs8, hs9⟩; go_simp; try with_reducible rfl))
                    try simp only [gA, gB, gC, Act.put, gD, gE, gF]
                    first | (refine tR (i := 13) rfl rfl ?_) | (refine tL (i := 13) (v := ?vl8x13) rfl ?hyl8x13 ?rl8x13; case hyl8x13 => (rintro w' ⟨hs0, hs1, hs2, hs3, hs4, hs5, hs6, hs7, hs8, hs9⟩; go_simp; try with_reducible rfl))
                    try simp only [gA, gB, gC, Act.put, gD, gE, gF]
                    refine wpAnyH_ready (rs := [14]) (by kernel_rfl) (by simp) ?_
                    refine AllReadyH.cons (o := _) rfl (fun K hK => ?_) AllReadyH.nil
                    go_simp
                    go_at_call 101; (with_reducible refine (HLx _).mono ?_); rintro e8 w8 ⟨rfl, hx8⟩; have hB1 := hB1.trans (hx8.mono hB1.size); clear hx8
                    dsimp only
                    refine hK.out _ _ (hS0 _ hB1) (fun hHeld => ?_)
                    clear hK K
                    try simp only [gA, gB, gC, Act.put, gD, gE, gF]
                    first | (refine tR (i := 15) rfl rfl ?_) | (refine tL (i := 15) (v := ?vl8x15) rfl ?hyl8x15 ?rl8x15; case hyl8x15 => (rintro w' ⟨hs0, hs1, hs2, hs3, hs4, hs5, hs6, hs7, hs8, hs9⟩; go_simp; try with_reducible rfl))
                    try simp only [gA, gB, gC, Act.put, gD, gE, gF]
                    first | (refine tR (i := 16) rfl rfl ?_) | (refine tL (i := 16) (v := ?vl8x16) rfl ?hyl8x16 ?rl8x16; case hyl8x16 => (rintro w' ⟨hs0, hs1, hs2, hs3, hs4, hs5, hs6, hs7, hs8, hs9⟩; go_simp; try with_reducible rfl))
                    try simp only [gA, gB, gC, Act.put, gD, gE, gF]
                    first | (refine tR (i := 17) rfl rfl ?_) | (refine tL (i := 17) (v := ?vl8x17) rfl ?hyl8x17 ?rl8x17; case hyl8x17 => (rintro w' ⟨hs0, hs1, hs2, hs3, hs4, hs5, hs6, hs7, hs8, hs9⟩; go_simp; try with_reducible rfl))
                    try simp only [gA, gB, gC, Act.put, gD, gE, gF]
                    first | (refine tR (i := 18) rfl rfl ?_) | (refine tL (i := 18) (v := ?vl8x18) rfl ?hyl8x18 ?rl8x18; case hyl8x18 => (rintro w' ⟨hs0, hs1, hs2, hs3, hs4, hs5, hs6, hs7, hs8, hs9⟩; go_simp; try with_reducible rfl))
                    try simp only [gA, gB, gC, Act.put, gD, gE, gF]
                    first | (refine tR (i := 19) rfl rfl ?_) | (refine tL (i := 19) (v := ?vl8x19) rfl ?hyl8x19 ?rl8x19; case hyl8x19 => (rintro w' ⟨hs0, hs1, hs2, hs3, hs4, hs5, hs6, hs7, hs8, hs9⟩; go_simp; try with_reducible rfl))
                    try simp only [gA, gB, gC, Act.put, gD, gE, gF]
                    first | (refine tR (i := 20) rfl rfl ?_) | (refine tL (i := 20) (v := ?vl8x20) rfl ?hyl8x20 ?rl8x20; case hyl8x20 => (rintro w' ⟨hs0, hs1, hs2, hs3, hs4, hs5, hs6, hs7, hs8, hs9⟩; go_simp; try with_reducible rfl))
                    try simp only [gA, gB, gC, Act.put, gD, gE, gF]
                    first | (refine tR (i := 21) rfl rfl ?_) | (refine tL (i := 21) (v := ?vl8x21) rfl ?hyl8x21 ?rl8x21; case hyl8x21 => (rintro w' ⟨hs0, hs1, hs2, hs3, hs4, hs5, hs6, hs7, hs8, hs9⟩; go_simp; try with_reducible rfl))
                    try simp only [gA, gB, gC, Act.put, gD, gE, gF]
                    first | (refine tR (i := 22) rfl rfl ?_) | (refine tL (i := 22) (v := ?vl8x22) rfl ?hyl8x22 ?rl8x22; case hyl8x22 => (rintro w' ⟨hs0, hs1, hs2, hs3, hs4, hs5, hs6, hs7, hs8, hs9⟩; go_simp; try with_reducible rfl))
                    try simp only [gA, gB, gC, Act.put, gD, gE, gF]
                    first | (refine tR (i := 23) rfl rfl ?_) | (refine tL (i := 23) (v := ?vl8x23) rfl ?hyl8x23 ?rl8x23; case hyl8x23 => (rintro w' ⟨hs0, hs1, hs2, hs3, hs4, hs5, hs6, hs7, hs8, hs9⟩; go_simp; try with_reducible rfl))
                    try simp only [gA, gB, gC, Act.put, gD, gE, gF]
                    first | (refine tR (i := 24) rfl rfl ?_) | (refine tL (i := 24) (v := ?vl8x24) rfl ?hyl8x24 ?rl8x24; case hyl8x24 => (rintro w' ⟨hs0, hs1, hs2, hs3, hs4, hs5, hs6, hs7, hs8, hs9⟩; go_simp; try with_reducible rfl))
                    try simp only [gA, gB, gC, Act.put, gD, gE, gF]
                    first | (refine tR (i := 25) rfl rfl ?_) | (refine tL (i := 25) (v := ?vl8x25) rfl ?hyl8x25 ?rl8x25; case hyl8x25 => (rintro w' ⟨hs0, hs1, hs2, hs3, hs4, hs5, hs6, hs7, hs8, hs9⟩; go_simp; try with_reducible rfl))
                    try simp only [gA, gB, gC, Act.put, gD, gE, gF]
                    first | (refine tR (i := 26) rfl rfl ?_) | (refine tL (i := 26) (v := ?vl8x26) rfl ?hyl8x26 ?rl8x26; case hyl8x26 => (rintro w' ⟨hs0, hs1, hs2, hs3, hs4, hs5, hs6, hs7, hs8, hs9⟩; go_simp; try with_reducible rfl))
                    try simp only [gA, gB, gC, Act.put, gD, gE, gF]
                    first | (refine tR (i := 27) rfl rfl ?_) | (refine tL (i := 27) (v := ?vl8x27) rfl ?hyl8x27 ?rl8x27; case hyl8x27 => (rintro w' ⟨hs0, hs1, hs2, hs3, hs4, hs5, hs6, hs7, hs8, hs9⟩; go_simp; try with_reducible rfl))
                    try simp only [gA, gB, gC, Act.put, gD, gE, gF]
                    first | (refine tR (i := 28) rfl rfl ?_) | (refine tL (i := 28) (v := ?vl8x28) rfl ?hyl8x28 ?rl8x28; case hyl8x28 => (rintro w' ⟨hs0, hs1, hs2, hs3, hs4, hs5, hs6, hs7, hs8, hs9⟩; go_simp; try with_reducible rfl))
                    try simp only [gA, gB, gC, Act.put, gD, gE, gF]
                    first | (refine tR (i := 29) rfl rfl ?_) | (refine tL (i := 29) (v := ?vl8x29) rfl ?hyl8x29 ?rl8x29; case hyl8x29 => (rintro w' ⟨hs0, hs1, hs2, hs3, hs4, hs5, hs6, hs7, hs8, hs9⟩; go_simp; try with_reducible rfl))
                    try simp only [gA, gB, gC, Act.put, gD, gE, gF]
                    first | (refine tR (i := 30) rfl rfl ?_) | (refine tL (i := 30) (v := ?vl8x30) rfl ?hyl8x30 ?rl8x30; case hyl8x30 => (rintro w' ⟨hs0, hs1, hs2, hs3, hs4, hs5, hs6, hs7, hs8, hs9⟩; go_simp; try with_reducible rfl))
                    try simp only [gA, gB, gC, Act.put, gD, gE, gF]
                    first | (refine tR (i := 31) rfl rfl ?_) | (refine tL (i := 31) (v := ?vl8x31) rfl ?hyl8x31 ?rl8x31; case hyl8x31 => (rintro w' ⟨hs0, hs1, hs2, hs3, hs4, hs5, hs6, hs7, hs8, hs9⟩; go_simp; try with_reducible rfl))
                    try simp only [gA, gB, gC, Act.put, gD, gE, gF]
                    first | (refine tR (i := 32) rfl rfl ?_) | (refine tL (i := 32) (v := ?vl8x32) rfl ?hyl8x32 ?rl8x32; case hyl8x32 => (rintro w' ⟨hs0, hs1, hs2, hs3, hs4, hs5, hs6, hs7, hs8, hs9⟩; go_simp; try with_reducible rfl))
                    try simp only [gA, gB, gC, Act.put, gD, gE, gF]
                    first | (refine tR (i := 33) rfl rfl ?_) | (refine tL (i := 33) (v := ?vl8x33) rfl ?hyl8x33 ?rl8x33; case hyl8x33 => (rintro w' ⟨hs0, hs1, hs2, hs3, hs4, hs5, hs6, hs7, hs8, hs9⟩; go_simp; try with_reducible rfl))
                    try simp only [gA, gB, gC, Act.put, gD, gE, gF]
                    refine wpAnyH_done (by kernel_rfl) ?_ _
                    all_goals (
                      go_wp2
                      go_ret
                      exact ⟨by rw [E.out, hno.out hok.out]; rfl, (hS3.below hB1).hb⟩)
                  · have hok : Hid (okO ov ⟨sd, i, sq⟩ (K + 1) = true) := by unfold Hid okO; rw [hget]; rw [hr, show K + 1 - 1 = K from rfl, hgetp, hl, hA, decide_eq_false hG]; simp
                    refine wp_region_held_drew (S := fun w' => w'.cell? ⟨wr.heap.size, 0, none⟩ = some (.int .i64 x.dev) ∧ w'.cell? ⟨wr.heap.size, 1, none⟩ = some (.int .i64 x.inc) ∧ w'.cell? ⟨wr.heap.size, 2, none⟩ = some (.int .i64 x.seq) ∧ w'.cell? ⟨w.heap.size, 0, none⟩ = some (.int .i64 sd) ∧ w'.cell? ⟨w.heap.size, 1, none⟩ = some (.int .i64 i) ∧ w'.cell? ⟨w.heap.size, 2, none⟩ = some (.int .i64 sq) ∧ w'.cell? ⟨w.heap.size, 18, none⟩ = some (.slice (some ⟨g, off, none⟩) n c) ∧ w'.cell? ⟨g, off + K * 3, none⟩ = some (.int .i64 y.dev) ∧ w'.cell? ⟨g, off + K * 3 + 1, none⟩ = some (.int .i64 y.inc) ∧ w'.cell? ⟨g, off + K * 3 + 2, none⟩ = some (.int .i64 y.seq)) (by kernel_rfl) (hS0 _ hB1) (fun hHeld => ?_)
                    first | (refine tR (i := 0) rfl rfl ?_) | (refine tL (i := 0) (v := ?vl9x0) rfl ?hyl9x0 ?rl9x0; case hyl9x0 => (rintro w' ⟨hs0, hs1, hs2, hs3, hs4, hs5, hs6, hs7, hs8, hs9⟩; go_simp; try with_reducible rfl))
                    try simp only [gA, gB, Act.put, gD, gE, gF]
                    refine wpAnyH_ready (rs := [1]) (by kernel_rfl) (by simp) ?_
                    refine AllReadyH.cons (o := _) rfl (fun K hK => ?_) AllReadyH.nil
                    go_simp
                    go_at_call 86; (with_reducible refine (HRx _).mono ?_); rintro e7 w7 ⟨rfl, hx7⟩; have hB1 := hB1.trans (hx7.mono hB1.size); clear hx7
                    dsimp only
                    refine hK.out _ _ (hS0 _ hB1) (fun hHeld => ?_)
                    clear hK K
                    try simp only [gA, gB, gC, Act.put, gD, gE, gF]
                    first | (refine tR (i := 2) rfl rfl ?_) | (refine tL (i := 2) (v := ?vl9x2) rfl ?hyl9x2 ?rl9x2; case hyl9x2 => (rintro w' ⟨hs0, hs1, hs2, hs3, hs4, hs5, hs6, hs7, hs8, hs9⟩; go_simp; try with_reducible rfl))
                    try simp only [gA, gB, gC, Act.put, gD, gE, gF]
                    first | (refine tR (i := 3) rfl rfl ?_) | (refine tL (i := 3) (v := ?vl9x3) rfl ?hyl9x3 ?rl9x3; case hyl9x3 => (rintro w' ⟨hs0, hs1, hs2, hs3, hs4, hs5, hs6, hs7, hs8, hs9⟩; go_simp; try with_reducible rfl))
                    try simp only [gA, gB, gC, Act.put, gD, gE, gF]
                    first | (refine tR (i := 4) rfl rfl ?_) | (refine tL (i := 4) (v := ?vl9x4) rfl ?hyl9x4 ?rl9x4; case hyl9x4 => (rintro w' ⟨hs0, hs1, hs2, hs3, hs4, hs5, hs6, hs7, hs8, hs9⟩; go_simp; try with_reducible rfl))
                    try simp only [gA, gB, gC, Act.put, gD, gE, gF]
                    first | (refine tR (i := 5) rfl rfl ?_) | (refine tL (i := 5) (v := ?vl9x5) rfl ?hyl9x5 ?rl9x5; case hyl9x5 => (rintro w' ⟨hs0, hs1, hs2, hs3, hs4, hs5, hs6, hs7, hs8, hs9⟩; go_simp; try with_reducible rfl))
                    try simp only [gA, gB, gC, Act.put, gD, gE, gF]
                    first | (refine tR (i := 6) rfl rfl ?_) | (refine tL (i := 6) (v := ?vl9x6) rfl ?hyl9x6 ?rl9x6; case hyl9x6 => (rintro w' ⟨hs0, hs1, hs2, hs3, hs4, hs5, hs6, hs7, hs8, hs9⟩; go_simp; try with_reducible rfl))
                    try simp only [gA, gB, gC, Act.put, gD, gE, gF]
                    first | (refine tR (i := 7) rfl rfl ?_) | (refine tL (i := 7) (v := ?vl9x7) rfl ?hyl9x7 ?rl9x7; case hyl9x7 => (rintro w' ⟨hs0, hs1, hs2, hs3, hs4, hs5, hs6, hs7, hs8, hs9⟩; go_simp; try with_reducible rfl))
                    try simp only [gA, gB, gC, Act.put, gD, gE, gF]
                    first | (refine tR (i := 8) rfl rfl ?_) | (refine tL (i := 8) (v := ?vl9x8) rfl ?hyl9x8 ?rl9x8; case hyl9x8 => (rintro w' ⟨hs0, hs1, hs2, hs3, hs4, hs5, hs6, hs7, hs8, hs9⟩; go_simp; try with_reducible rfl))
                    try simp only [gA, gB, gC, Act.put, gD, gE, gF]
                    first | (refine tR (i := 9) rfl rfl ?_) | (refine tL (i := 9) (v := ?vl9x9) rfl ?hyl9x9 ?rl9x9; case hyl9x9 => (rintro w' ⟨hs0, hs1, hs2, hs3, hs4, hs5, hs6, hs7, hs8, hs9⟩; go_simp; try with_reducible rfl))
                    try simp only [gA, gB, gC, Act.put, gD, gE, gF]
                    first | (refine tR (i := 10) rfl rfl ?_) | (refine tL (i := 10) (v := ?vl9x10) rfl ?hyl9x10 ?rl9x10; case hyl9x10 => (rintro w' ⟨hs0, hs1, hs2, hs3, hs4, hs5, hs6, hs7, hs8, hs9⟩; go_simp; try with_reducible rfl))
                    try simp only [gA, gB, gC, Act.put, gD, gE, gF]
                    first | (refine tR (i := 11) rfl rfl ?_) | (refine tL (i := 11) (v := ?vl9x11) rfl ?hyl9x11 ?rl9x11; case hyl9x11 => (rintro w' ⟨hs0, hs1, hs2, hs3, hs4, hs5, hs6, hs7, hs8, hs9⟩; go_simp; try with_reducible rfl))
                    try simp only [gA, gB, gC, Act.put, gD, gE, gF]
                    first | (refine tR (i := 12) rfl rfl ?_) | (refine tL (i := 12) (v := ?vl9x12) rfl ?hyl9x12 ?rl9x12; case hyl9x12 => (rintro w' ⟨hs0, hs1, hs2, hs3, hs4, hs5, hs6, hs7, hs8, hs9⟩; go_simp; try with_reducible rfl))
                    try simp only [gA, gB, gC, Act.put, gD, gE, gF]
                    first | (refine tR (i := 13) rfl rfl ?_) | (refine tL (i := 13) (v := ?vl9x13) rfl ?hyl9x13 ?rl9x13; case hyl9x13 => (rintro w' ⟨hs0, hs1, hs2, hs3, hs4, hs5, hs6, hs7, hs8, hs9⟩; go_simp; try with_reducible rfl))
                    try simp only [gA, gB, gC, Act.put, gD, gE, gF]
                    refine wpAnyH_ready (rs := [14]) (by kernel_rfl) (by simp) ?_
                    refine AllReadyH.cons (o := _) rfl (fun K hK => ?_) AllReadyH.nil
                    go_simp
                    go_at_call 101; (with_reducible refine (HLx _).mono ?_); rintro e8 w8 ⟨rfl, hx8⟩; have hB1 := hB1.trans (hx8.mono hB1.size); clear hx8
                    dsimp only
                    refine hK.out _ _ (hS0 _ hB1) (fun hHeld => ?_)
                    clear hK K
                    try simp only [gA, gB, gC, Act.put, gD, gE, gF]
                    first | (refine tR (i := 15) rfl rfl ?_) | (refine tL (i := 15) (v := ?vl9x15) rfl ?hyl9x15 ?rl9x15; case hyl9x15 => (rintro w' ⟨hs0, hs1, hs2, hs3, hs4, hs5, hs6, hs7, hs8, hs9⟩; go_simp; try with_reducible rfl))
                    try simp only [gA, gB, gC, Act.put, gD, gE, gF]
                    first | (refine tR (i := 16) rfl rfl ?_) | (refine tL (i := 16) (v := ?vl9x16) rfl ?hyl9x16 ?rl9x16; case hyl9x16 => (rintro w' ⟨hs0, hs1, hs2, hs3, hs4, hs5, hs6, hs7, hs8, hs9⟩; go_simp; try with_reducible rfl))
                    try simp only [gA, gB, gC, Act.put, gD, gE, gF]
                    first | (refine tR (i := 17) rfl rfl ?_) | (refine tL (i := 17) (v := ?vl9x17) rfl ?hyl9x17 ?rl9x17; case hyl9x17 => (rintro w' ⟨hs0, hs1, hs2, hs3, hs4, hs5, hs6, hs7, hs8, hs9⟩; go_simp; try with_reducible rfl))
                    try simp only [gA, gB, gC, Act.put, gD, gE, gF]
                    first | (refine tR (i := 18) rfl rfl ?_) | (refine tL (i := 18) (v := ?vl9x18) rfl ?hyl9x18 ?rl9x18; case hyl9x18 => (rintro w' ⟨hs0, hs1, hs2, hs3, hs4, hs5, hs6, hs7, hs8, hs9⟩; go_simp; try with_reducible rfl))
                    try simp only [gA, gB, gC, Act.put, gD, gE, gF]
                    first | (refine tR (i := 19) rfl rfl ?_) | (refine tL (i := 19) (v := ?vl9x19) rfl ?hyl9x19 ?rl9x19; case hyl9x19 => (rintro w' ⟨hs0, hs1, hs2, hs3, hs4, hs5, hs6, hs7, hs8, hs9⟩; go_simp; try with_reducible rfl))
                    try simp only [gA, gB, gC, Act.put, gD, gE, gF]
                    first | (refine tR (i := 20) rfl rfl ?_) | (refine tL (i := 20) (v := ?vl9x20) rfl ?hyl9x20 ?rl9x20; case hyl9x20 => (rintro w' ⟨hs0, hs1, hs2, hs3, hs4, hs5, hs6, hs7, hs8, hs9⟩; go_simp; try with_reducible rfl))
                    try simp only [gA, gB, gC, Act.put, gD, gE, gF]
                    first | (refine tR (i := 21) rfl rfl ?_) | (refine tL (i := 21) (v := ?vl9x21) rfl ?hyl9x21 ?rl9x21; case hyl9x21 => (rintro w' ⟨hs0, hs1, hs2, hs3, hs4, hs5, hs6, hs7, hs8, hs9⟩; go_simp; try with_reducible rfl))
                    try simp only [gA, gB, gC, Act.put, gD, gE, gF]
                    first | (refine tR (i := 22) rfl rfl ?_) | (refine tL (i := 22) (v := ?vl9x22) rfl ?hyl9x22 ?rl9x22; case hyl9x22 => (rintro w' ⟨hs0, hs1, hs2, hs3, hs4, hs5, hs6, hs7, hs8, hs9⟩; go_simp; try with_reducible rfl))
                    try simp only [gA, gB, gC, Act.put, gD, gE, gF]
                    first | (refine tR (i := 23) rfl rfl ?_) | (refine tL (i := 23) (v := ?vl9x23) rfl ?hyl9x23 ?rl9x23; case hyl9x23 => (rintro w' ⟨hs0, hs1, hs2, hs3, hs4, hs5, hs6, hs7, hs8, hs9⟩; go_simp; try with_reducible rfl))
                    try simp only [gA, gB, gC, Act.put, gD, gE, gF]
                    first | (refine tR (i := 24) rfl rfl ?_) | (refine tL (i := 24) (v := ?vl9x24) rfl ?hyl9x24 ?rl9x24; case hyl9x24 => (rintro w' ⟨hs0, hs1, hs2, hs3, hs4, hs5, hs6, hs7, hs8, hs9⟩; go_simp; try with_reducible rfl))
                    try simp only [gA, gB, gC, Act.put, gD, gE, gF]
                    first | (refine tR (i := 25) rfl rfl ?_) | (refine tL (i := 25) (v := ?vl9x25) rfl ?hyl9x25 ?rl9x25; case hyl9x25 => (rintro w' ⟨hs0, hs1, hs2, hs3, hs4, hs5, hs6, hs7, hs8, hs9⟩; go_simp; try with_reducible rfl))
                    try simp only [gA, gB, gC, Act.put, gD, gE, gF]
                    first | (refine tR (i := 26) rfl rfl ?_) | (refine tL (i := 26) (v := ?vl9x26) rfl ?hyl9x26 ?rl9x26; case hyl9x26 => (rintro w' ⟨hs0, hs1, hs2, hs3, hs4, hs5, hs6, hs7, hs8, hs9⟩; go_simp; try with_reducible rfl))
                    try simp only [gA, gB, gC, Act.put, gD, gE, gF]
                    first | (refine tR (i := 27) rfl rfl ?_) | (refine tL (i := 27) (v := ?vl9x27) rfl ?hyl9x27 ?rl9x27; case hyl9x27 => (rintro w' ⟨hs0, hs1, hs2, hs3, hs4, hs5, hs6, hs7, hs8, hs9⟩; go_simp; try with_reducible rfl))
                    try simp only [gA, gB, gC, Act.put, gD, gE, gF]
                    first | (refine tR (i := 28) rfl rfl ?_) | (refine tL (i := 28) (v := ?vl9x28) rfl ?hyl9x28 ?rl9x28; case hyl9x28 => (rintro w' ⟨hs0, hs1, hs2, hs3, hs4, hs5, hs6, hs7, hs8, hs9⟩; go_simp; try with_reducible rfl))
                    try simp only [gA, gB, gC, Act.put, gD, gE, gF]
                    first | (refine tR (i := 29) rfl rfl ?_) | (refine tL (i := 29) (v := ?vl9x29) rfl ?hyl9x29 ?rl9x29; case hyl9x29 => (rintro w' ⟨hs0, hs1, hs2, hs3, hs4, hs5, hs6, hs7, hs8, hs9⟩; go_simp; try with_reducible rfl))
                    try simp only [gA, gB, gC, Act.put, gD, gE, gF]
                    first | (refine tR (i := 30) rfl rfl ?_) | (refine tL (i := 30) (v := ?vl9x30) rfl ?hyl9x30 ?rl9x30; case hyl9x30 => (rintro w' ⟨hs0, hs1, hs2, hs3, hs4, hs5, hs6, hs7, hs8, hs9⟩; go_simp; try with_reducible rfl))
                    try simp only [gA, gB, gC, Act.put, gD, gE, gF]
                    first | (refine tR (i := 31) rfl rfl ?_) | (refine tL (i := 31) (v := ?vl9x31) rfl ?hyl9x31 ?rl9x31; case hyl9x31 => (rintro w' ⟨hs0, hs1, hs2, hs3, hs4, hs5, hs6, hs7, hs8, hs9⟩; go_simp; try with_reducible rfl))
                    try simp only [gA, gB, gC, Act.put, gD, gE, gF]
                    first | (refine tR (i := 32) rfl rfl ?_) | (refine tL (i := 32) (v := ?vl9x32) rfl ?hyl9x32 ?rl9x32; case hyl9x32 => (rintro w' ⟨hs0, hs1, hs2, hs3, hs4, hs5, hs6, hs7, hs8, hs9⟩; go_simp; try with_reducible rfl))
                    try simp only [gA, gB, gC, Act.put, gD, gE, gF]
                    first | (refine tR (i := 33) rfl rfl ?_) | (refine tL (i := 33) (v := ?vl9x33) rfl ?hyl9x33 ?rl9x33; case hyl9x33 => (rintro w' ⟨hs0, hs1, hs2, hs3, hs4, hs5, hs6, hs7, hs8, hs9⟩; go_simp; try with_reducible rfl))
                    try simp only [gA, gB, gC, Act.put, gD, gE, gF]
                    refine wpAnyH_done (by kernel_rfl) ?_ _
                    all_goals (
                      go_wp2
                      go_roundw
                      case rel => exact ⟨(K + 1) + 1, by omega, by go_num, hyes.out hok.out, hS3.below hB1⟩
                      case measure => simp [intOf]; omega)
        · obtain rfl : k = n := by omega
          have u0 := hS.o.cell 0 rfl; have u1 := hS.o.cell 1 rfl; have u2 := hS.o.cell 2 rfl; have u3 := hS.o.cell 3 rfl; have u4 := hS.o.cell 4 rfl; have u5 := hS.o.cell 5 rfl; have u6 := hS.o.cell 6 rfl; have u7 := hS.o.cell 7 rfl; have u8 := hS.o.cell 8 rfl; have u9 := hS.o.cell 9 rfl; have u10 := hS.o.cell 10 rfl; have u11 := hS.o.cell 11 rfl; have u12 := hS.o.cell 12 rfl; have u13 := hS.o.cell 13 rfl; have u14 := hS.o.cell 14 rfl; have u15 := hS.o.cell 15 rfl; have u16 := hS.o.cell 16 rfl; have u17 := hS.o.cell 17 rfl; have u18 := hS.o.cell 18 rfl
          have hfull : Hid ((List.range k).all (okO ov ⟨sd, i, sq⟩) = true) := by
            unfold Hid
            rw [List.all_eq_true]
            intro j hj
            exact hall.out j (List.mem_range.1 hj)
          have E3 : Hid (rightE ⟨⟨sd, i, sq⟩, ⟨wl, ct, sd⟩, kd, it, ov⟩ = kindE ⟨⟨sd, i, sq⟩, ⟨wl, ct, sd⟩, kd, it, ov⟩) := by
            unfold Hid
            rw [E.out, hfull.out]
            rfl
          have y4 := below_alloc wr (.cells #[.string (str it.name), .string (str it.dom), .string (str it.path), .string (str it.val), .bool it.host, .bool it.sec, .bool it.http, .bool it.pers, .int .i64 it.exp, .int .i64 it.made, .int .i64 it.used] 156)
          have oI := ObjAt.new wr #[.string (str it.name), .string (str it.dom), .string (str it.path), .string (str it.val), .bool it.host, .bool it.sec, .bool it.http, .bool it.pers, .int .i64 it.exp, .int .i64 it.made, .int .i64 it.used] 156
          have hS4 := hS.below y4
          have hnk : ov.length = k := hn
          have HN := Lib.hid hnk
          have E4 : Hid (kindE ⟨⟨sd, i, sq⟩, ⟨wl, ct, sd⟩, kd, it, ov⟩ = if kd = 1 then rightX it else kd == 2 && (sameKey it ItemL.none && likeC it ItemL.none) && decide (0 < k)) := by
            unfold Hid kindE
            dsimp only
            rw [hnk]
          have i0 := oI.cell 0 rfl; have i1 := oI.cell 1 rfl; have i2 := oI.cell 2 rfl; have i3 := oI.cell 3 rfl; have i4 := oI.cell 4 rfl; have i5 := oI.cell 5 rfl; have i6 := oI.cell 6 rfl; have i7 := oI.cell 7 rfl; have i8 := oI.cell 8 rfl; have i9 := oI.cell 9 rfl; have i10 := oI.cell 10 rfl
          have s0 := hS4.o.cell 0 rfl; have s1 := hS4.o.cell 1 rfl; have s2 := hS4.o.cell 2 rfl; have s3 := hS4.o.cell 3 rfl; have s4 := hS4.o.cell 4 rfl; have s5 := hS4.o.cell 5 rfl; have s6 := hS4.o.cell 6 rfl; have s7 := hS4.o.cell 7 rfl; have s8 := hS4.o.cell 8 rfl; have s9 := hS4.o.cell 9 rfl; have s10 := hS4.o.cell 10 rfl; have s11 := hS4.o.cell 11 rfl; have s12 := hS4.o.cell 12 rfl; have s13 := hS4.o.cell 13 rfl; have s14 := hS4.o.cell 14 rfl; have s15 := hS4.o.cell 15 rfl; have s16 := hS4.o.cell 16 rfl; have s17 := hS4.o.cell 17 rfl; have s18 := hS4.o.cell 18 rfl
          clear hall hnk hn
          by_cases q1 : kd = 1
          · rw [if_pos q1] at E4
            have k1 : (kd == 1) = true := by simp [q1]
            generalize rightX it = RX at *
            clear q1
            go_wp2_with (go_at_call 108; (with_reducible refine (HX _).mono ?_); rintro e4 w4 ⟨rfl, hx⟩)
            go_ret
            exact ⟨by rw [E3.out, E4.out]; rfl, (hS4.below hx).hb⟩
          · rw [if_neg q1] at E4
            have k1 : (kd == 1) = false := by simp [q1]
            have HZ := fun v => eqItemZ it v
            clear q1 HX
            cases q2 : (kd == 2) with
            | false =>
              rw [q2, Bool.false_and, Bool.false_and] at E4
              go_wp2_with fail
              go_ret
              exact ⟨by rw [E3.out, E4.out]; rfl, hS4.hb⟩
            | true =>
              rw [q2, Bool.true_and] at E4
              cases q3 : (sameKey it ItemL.none && likeC it ItemL.none) with
              | false =>
                rw [q3, Bool.false_and] at E4
                rw [q3] at HZ
                go_wp2_with fail
                go_ret
                exact ⟨by rw [E3.out, E4.out]; rfl, hS4.hb⟩
              | true =>
                rw [q3, Bool.true_and] at E4
                rw [q3] at HZ
                by_cases q4 : 0 < k
                · have q5 : (0 : Int) < (k : Int) := by omega
                  rw [decide_eq_true q4] at E4
                  go_wp2_with fail
                  go_ret
                  exact ⟨by rw [E3.out, E4.out]; rfl, hS4.hb⟩
                · have q5 : ¬ (0 : Int) < (k : Int) := by omega
                  rw [decide_eq_false q4] at E4
                  go_wp2_with fail
                  go_ret
                  exact ⟨by rw [E3.out, E4.out]; rfl, hS4.hb⟩
  · have q3b : (e.stamp.dev != e.dot.dev) = true := by simp [q3]
    have E : rightE e = false := by unfold rightE headE; simp [q3]
    rw [E]
    clear E HX
    go_enter Tryz.func62, Tryz.ntmps62
    go_wp2_with (first | (go_at_call 86; (with_reducible refine (HD _).mono ?_); rintro e1 w1 ⟨rfl, hx⟩; have hS := hS.below hx; have u0 := hS.o.cell 0 rfl; have u1 := hS.o.cell 1 rfl; have u2 := hS.o.cell 2 rfl; have u3 := hS.o.cell 3 rfl; have u4 := hS.o.cell 4 rfl; have u5 := hS.o.cell 5 rfl; have u6 := hS.o.cell 6 rfl; have u7 := hS.o.cell 7 rfl; have u8 := hS.o.cell 8 rfl; have u9 := hS.o.cell 9 rfl; have u10 := hS.o.cell 10 rfl; have u11 := hS.o.cell 11 rfl; have u12 := hS.o.cell 12 rfl; have u13 := hS.o.cell 13 rfl; have u14 := hS.o.cell 14 rfl; have u15 := hS.o.cell 15 rfl; have u16 := hS.o.cell 16 rfl; have u17 := hS.o.cell 17 rfl; have u18 := hS.o.cell 18 rfl; clear hx) | (go_at_call 107; (with_reducible refine (HT _).mono ?_); rintro e2 w2 ⟨rfl, hx⟩; have hS := hS.below hx; have u0 := hS.o.cell 0 rfl; have u1 := hS.o.cell 1 rfl; have u2 := hS.o.cell 2 rfl; have u3 := hS.o.cell 3 rfl; have u4 := hS.o.cell 4 rfl; have u5 := hS.o.cell 5 rfl; have u6 := hS.o.cell 6 rfl; have u7 := hS.o.cell 7 rfl; have u8 := hS.o.cell 8 rfl; have u9 := hS.o.cell 9 rfl; have u10 := hS.o.cell 10 rfl; have u11 := hS.o.cell 11 rfl; have u12 := hS.o.cell 12 rfl; have u13 := hS.o.cell 13 rfl; have u14 := hS.o.cell 14 rfl; have u15 := hS.o.cell 15 rfl; have u16 := hS.o.cell 16 rfl; have u17 := hS.o.cell 17 rfl; have u18 := hS.o.cell 18 rfl; clear hx))
    go_ret
    exact ⟨rfl, hS.hb⟩
end Go.Proofs.YtaodjnkjjmhecaaGreatDoor
