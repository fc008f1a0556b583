/- Contracts and plain words that the laws' proofs stand on, put together. -/
import Derived.Test.YtkakcdojbgnocaaDoorEventRef
import Derived.Test.YtkakcdojbgnocaaDoorLibAI
import Derived.Test.YtkakcdojbgnocaaDoorLibAQ
import Derived.Deep.RegionHeld3
import Derived.Deep.RegionLaw
import Derived.Test.YtkakcdojbgnocaaDoorLibAH
import Derived.Test.YtkakcdojbgnocaaDoorLibAE
import Derived.Test.YtkakcdojbgnocaaDoorLibAJ
import Derived.Test.YtkakcdojbgnocaaDoorLibAA
import Derived.Test.YtkakcdojbgnocaaDoorLibAR
/- Contracts of the reference of layer 20: which events may be. -/
namespace Go.Proofs.YtkakcdojbgnocaaDoor
open Go.RowKit
set_option linter.unusedVariables false

/-- An event in its box, and the dots that it is over. -/
structure StR (w : World) (e : EventN) (a : Option Addr) (n c : Nat) (v : World) : Prop where
  o : ObjAt v w.heap.size [.int .i64 e.dot.dev, .int .i64 e.dot.inc, .int .i64 e.dot.seq, .int .i64 e.stamp.wall, .int .i64 e.stamp.count, .int .i64 e.stamp.dev, .int .i64 e.kind, .string (str e.item.name), .string (str e.item.dom), .string (str e.item.path), .string (str e.item.val), .bool e.item.host, .bool e.item.sec, .bool e.item.http, .bool e.item.pers, .int .i64 e.item.exp, .int .i64 e.item.made, .int .i64 e.item.used, .slice a n c]
  row : RowOf encD 3 v a n c e.over
  hb : Below w.heap.size w v
theorem StR.below {w v v' : World} {e : EventN} {a : Option Addr} {n c : Nat} (h : StR w e a n c v) (hx : Below v.heap.size v v') : StR w e a n c v' :=
  ⟨h.o.below hx h.o.lt, h.row.below hx, h.hb.trans (hx.mono h.hb.size)⟩

end Go.Proofs.YtkakcdojbgnocaaDoor

/- Contracts of the reference of layer 20: an event, packed. -/
namespace Go.Proofs.YtkakcdojbgnocaaDoor
open Go.RowKit
set_option linter.unusedVariables false

/-- An event in its box, the dots that it is over, its cookie in a box of its own (block z), which the row of bytes that grows (q) leaves alone. -/
structure StW (w : World) (e : EventN) (a : Option Addr) (n c : Nat) (q : Option Addr) (z : Nat) (v : World) : Prop where
  o : ObjAt v w.heap.size [.int .i64 e.dot.dev, .int .i64 e.dot.inc, .int .i64 e.dot.seq, .int .i64 e.stamp.wall, .int .i64 e.stamp.count, .int .i64 e.stamp.dev, .int .i64 e.kind, .string (str e.item.name), .string (str e.item.dom), .string (str e.item.path), .string (str e.item.val), .bool e.item.host, .bool e.item.sec, .bool e.item.http, .bool e.item.pers, .int .i64 e.item.exp, .int .i64 e.item.made, .int .i64 e.item.used, .slice a n c]
  row : RowOf encD 3 v a n c e.over
  k : ObjAt v z [.string (str e.item.val), .bool e.item.host, .bool e.item.sec, .bool e.item.http, .bool e.item.pers, .int .i64 e.item.exp, .int .i64 e.item.made, .int .i64 e.item.used]
  ap : Apart q z
  hz : w.heap.size < z
  hb : Below w.heap.size w v
theorem StW.below {w v v' : World} {e : EventN} {a q : Option Addr} {n c z : Nat} (h : StW w e a n c q z v) (hx : Below v.heap.size v v') : StW w e a n c q z v' :=
  ⟨h.o.below hx h.o.lt, h.row.below hx, h.k.below hx h.k.lt, h.ap, h.hz, h.hb.trans (hx.mono h.hb.size)⟩
theorem StW.app {w v v' : World} {e : EventN} {a q q' : Option Addr} {n c z : Nat} (h : StW w e a n c q z v) (h0 : RowOf encD 3 w a n c e.over) (hx : Below (w.heap.size + 1) v v') (hg : GrownBut v v' q) (hn : q' = q ∨ ∃ g, q' = some ⟨g, 0, none⟩ ∧ v.heap.size ≤ g) : StW w e a n c q' z v' := by
  have hb2 : Below w.heap.size w v' := h.hb.trans (hx.mono (Nat.le_succ _))
  have hap : Apart q' z := by
    rcases hn with rfl | ⟨g, rfl, hg2⟩
    · exact h.ap
    · refine apart_iff.2 fun hk => ?_
      have e1 : g = z := at_some.1 hk
      have := h.k.lt
      omega
  refine ⟨h.o.below hx (Nat.lt_succ_self _), h0.below hb2, ?_, hap, h.hz, hb2⟩
  obtain ⟨t, ht⟩ := h.k.heap
  exact ⟨t, (hg.2 z h.k.lt h.ap).trans ht⟩

theorem textB_len (s : List UInt8) (h : s.length ≤ 2000) : (textBytes (str s)).length ≤ 2010 := by
  have e : (textBytes (str s)).length = (short s.length).length + s.length := by unfold textBytes strBytes; rw [List.length_append, List.length_map, str_size]; simp [str]
  have := short_ten s.length (by omega)
  omega
theorem fold_nat (m : Int) (h0 : -9223372036854775808 ≤ m) (h1 : m ≤ 9223372036854775807) : ∃ X : Nat, foldI m = (X : Int) ∧ X ≤ 18446744073709551615 := by
  unfold foldI
  split
  · exact ⟨(2 * m).toNat, by omega, by omega⟩
  · exact ⟨(-2 * m - 1).toNat, by omega, by omega⟩
theorem own_apart {base : Nat} {t : TypeId} {q : Option Addr} {n c : Nat} {xs : List Value} {v : World} (h : Owned base t q n c xs v) : Apart q v.heap.size := apart_iff.2 fun hk => Nat.lt_irrefl _ (h.at' _ hk).2
theorem one_byte (x : Int) : ∀ u ∈ [Value.int .u8 x], u.oneCell' = true := by
  intro u hu
  rw [List.mem_singleton] at hu
  subst hu
  rfl

theorem right_item {x : ItemL} (h : rightX x = true) : x.name.length ≤ 256 ∧ x.val.length ≤ 1024 ∧ x.path.length ≤ 256 ∧ (-1099511627776 ≤ x.exp ∧ x.exp ≤ 1099511627776) ∧ (0 ≤ x.made ∧ x.made ≤ 1099511627776) ∧ (0 ≤ x.used ∧ x.used ≤ 1099511627776) := by
  unfold rightX at h
  simp only [Bool.and_eq_true, Bool.not_eq_true', Bool.or_eq_false_iff, decide_eq_true_eq, decide_eq_false_iff_not] at h
  omega
theorem right_event {e : EventN} (h : rightE e = true) : rightD e.dot = true ∧ rightT e.stamp = true ∧ e.over.length ≤ 64 ∧ (∀ x ∈ e.over, rightD x = true) ∧ (e.kind = 1 → rightX e.item = true) := by
  unfold rightE headE kindE at h
  rw [Bool.and_eq_true, Bool.and_eq_true, Bool.and_eq_true, Bool.and_eq_true, Bool.and_eq_true, decide_eq_true_eq] at h
  obtain ⟨⟨h1, h2, h3, h4⟩, h5, h6⟩ := h
  refine ⟨h1, h2, h4, fun x hx => ?_, fun hk => by rw [if_pos hk] at h6; exact h6⟩
  obtain ⟨i, hi, rfl⟩ := List.mem_iff_getElem.1 hx
  have := List.all_eq_true.1 h5 i (List.mem_range.2 hi)
  unfold okO at this
  rw [Bool.and_eq_true, List.getD_eq_getElem?_getD, List.getElem?_eq_getElem hi] at this
  exact this.1

end Go.Proofs.YtkakcdojbgnocaaDoor

/- Unlike events have unlike bytes. No program in it. -/
namespace Go.Proofs.YtkakcdojbgnocaaDoor
open Go.RowKit
set_option linter.unusedVariables false

theorem short_app {n m : Nat} {r s : List Int} (hn : n ≤ 18446744073709551615) (hm : m ≤ 18446744073709551615) (h : short n ++ r = short m ++ s) : n = m ∧ r = s := by
  have a := got_back n r hn
  rw [h, got_back m s hm] at a
  have e : n = m := by
    have := congrArg Prod.fst a
    simp only at this
    omega
  subst e
  exact ⟨rfl, List.append_cancel_left h⟩
theorem bytesD_app {x y : DotN} {r s : List Int} (hx : rightD x = true) (hy : rightD y = true) (h : bytesD x ++ r = bytesD y ++ s) : x = y ∧ r = s := by
  have a := right_range hx
  have b := right_range hy
  unfold bytesD at h
  simp only [List.append_assoc] at h
  obtain ⟨h1, h⟩ := short_app (by omega) (by omega) h
  obtain ⟨h2, h⟩ := short_app (by omega) (by omega) h
  obtain ⟨h3, h⟩ := short_app (by omega) (by omega) h
  exact ⟨DotN.ext' (by omega) (by omega) (by omega), h⟩
theorem bytesT_app {x y : StampN} {r s : List Int} (hx : rightT x = true) (hy : rightT y = true) (h : bytesT x ++ r = bytesT y ++ s) : x = y ∧ r = s := by
  have a := rightT_iff.1 hx
  have b := rightT_iff.1 hy
  unfold bytesT at h
  simp only [List.append_assoc] at h
  obtain ⟨h1, h⟩ := short_app (by omega) (by omega) h
  obtain ⟨h2, h⟩ := short_app (by omega) (by omega) h
  obtain ⟨h3, h⟩ := short_app (by omega) (by omega) h
  refine ⟨?_, h⟩
  cases x
  cases y
  simp only at *
  congr 1 <;> omega
theorem dots_app : ∀ {L M : List DotN} {r s : List Int}, (∀ x ∈ L, rightD x = true) → (∀ x ∈ M, rightD x = true) → L.length = M.length → L.flatMap bytesD ++ r = M.flatMap bytesD ++ s → L = M ∧ r = s
  | [], [], r, s, _, _, _, h => ⟨rfl, by simpa using h⟩
  | [], y :: M, _, _, _, _, hl, _ => by simp at hl
  | x :: L, [], _, _, _, _, hl, _ => by simp at hl
  | x :: L, y :: M, r, s, hL, hM, hl, h => by
    rw [List.flatMap_cons, List.flatMap_cons, List.append_assoc, List.append_assoc] at h
    obtain ⟨e1, h1⟩ := bytesD_app (hL x (List.mem_cons_self ..)) (hM y (List.mem_cons_self ..)) h
    obtain ⟨e2, h2⟩ := dots_app (fun z hz => hL z (List.mem_cons_of_mem _ hz)) (fun z hz => hM z (List.mem_cons_of_mem _ hz)) (by simpa using hl) h1
    exact ⟨by rw [e1, e2], h2⟩
theorem strBytes_inj {l m : List UInt8} (h : strBytes (str l) = strBytes (str m)) : l = m := by
  have e : ∀ l : List UInt8, (str l).data.toList = l := fun l => by unfold str; rfl
  unfold strBytes at h
  rw [e, e] at h
  exact (List.map_inj_right (fun a b hab => UInt8.toNat_inj.1 (by omega))).1 h
theorem text_app {l m : List UInt8} {r s : List Int} (hl : l.length ≤ 18446744073709551615) (hm : m.length ≤ 18446744073709551615) (h : (short l.length ++ strBytes (str l)) ++ r = (short m.length ++ strBytes (str m)) ++ s) : l = m ∧ r = s := by
  simp only [List.append_assoc] at h
  obtain ⟨h1, h⟩ := short_app hl hm h
  obtain ⟨h2, h⟩ := List.append_inj h (by rw [strBytes_len, strBytes_len, str_size, str_size, h1])
  exact ⟨strBytes_inj h2, h⟩
theorem flagSum_inj : ∀ {l m : List Bool}, l.length = m.length → flagSum l = flagSum m → l = m
  | [], [], _, _ => rfl
  | [], y :: m, hl, _ => by simp at hl
  | x :: l, [], hl, _ => by simp at hl
  | x :: l, y :: m, hl, h => by
    simp only [flagSum] at h
    have e : x = y := by cases x <;> cases y <;> first | rfl | (simp at h; omega)
    subst e
    have e2 : l = m := flagSum_inj (by simpa using hl) (by omega)
    rw [e2]
theorem foldI_inj {a b : Int} (h : foldI a = foldI b) : a = b := by
  unfold foldI at h
  split at h <;> split at h <;> omega

theorem itemB_inj {x y : ItemL} (hx : rightX x = true) (hy : rightX y = true) (dx : x.dom.length ≤ 2000) (dy : y.dom.length ≤ 2000) (hh : x.host = y.host) (hs : x.sec = y.sec) (ht : x.http = y.http) (hp : x.pers = y.pers) (h : itemBytes x = itemBytes y) : x = y := by
  obtain ⟨a1, a2, a3, a4, a5, a6⟩ := right_item hx
  obtain ⟨b1, b2, b3, b4, b5, b6⟩ := right_item hy
  obtain ⟨X, f1, f2⟩ := fold_nat x.exp (by omega) (by omega)
  obtain ⟨Y, g1, g2⟩ := fold_nat y.exp (by omega) (by omega)
  unfold itemBytes at h
  have h := congrArg (· ++ ([] : List Int)) h
  obtain ⟨n1, d1, p1, v1, q1, q2, q3, q4, e1, m1, u1⟩ := x
  obtain ⟨n2, d2, p2, v2, q5, q6, q7, q8, e2, m2, u2⟩ := y
  dsimp only at *
  simp only [List.append_assoc] at h
  rw [← List.append_assoc (short n1.length), ← List.append_assoc (short n2.length)] at h
  obtain ⟨t1, h1⟩ := text_app (by omega) (by omega) h
  rw [← List.append_assoc (short d1.length), ← List.append_assoc (short d2.length)] at h1
  obtain ⟨t2, h2⟩ := text_app (by omega) (by omega) h1
  rw [← List.append_assoc (short p1.length), ← List.append_assoc (short p2.length)] at h2
  obtain ⟨t3, h3⟩ := text_app (by omega) (by omega) h2
  rw [← List.append_assoc (short v1.length), ← List.append_assoc (short v2.length)] at h3
  obtain ⟨t4, h4⟩ := text_app (by omega) (by omega) h3
  obtain ⟨t5, h5⟩ := short_app (by rw [f1]; omega) (by rw [g1]; omega) h4
  obtain ⟨t6, h6⟩ := short_app (by omega) (by omega) h5
  obtain ⟨t7, h7⟩ := short_app (by omega) (by omega) h6
  have t8 : e1 = e2 := foldI_inj (by rw [f1, g1] at t5 ⊢; simp only [Int.toNat_natCast] at t5; rw [t5])
  have t9 : m1 = m2 := by omega
  have t10 : u1 = u2 := by omega
  rw [t1, t2, t3, t4, t8, t9, t10, hh, hs, ht, hp]

theorem evKind {e : EventN} (h : rightE e = true) : (e.kind = 1 ∧ rightX e.item = true) ∨ (e.kind = 2 ∧ e.item = ItemL.none) := by
  unfold rightE at h
  rw [Bool.and_eq_true, Bool.and_eq_true] at h
  have hk := h.2.2
  unfold kindE at hk
  by_cases c : e.kind = 1
  · rw [if_pos c] at hk
    exact .inl ⟨c, hk⟩
  · rw [if_neg c, Bool.and_eq_true, Bool.and_eq_true, beq_iff_eq] at hk
    exact .inr ⟨hk.1.1, sameKC_iff.1 hk.1.2⟩

theorem bytesE_inj {a b : EventN} (ha : rightE a = true) (hb : rightE b = true) (da : a.item.dom.length ≤ 2000) (db : b.item.dom.length ≤ 2000) (h : bytesE a = bytesE b) : a = b := by
  obtain ⟨r1, r2, r3, r4, r5⟩ := right_event ha
  obtain ⟨s1, s2, s3, s4, s5⟩ := right_event hb
  have ka := evKind ha
  have kb := evKind hb
  unfold bytesE at h
  simp only [List.append_assoc] at h
  obtain ⟨h1, g⟩ := bytesD_app r1 s1 h
  obtain ⟨h2, g2⟩ := bytesT_app r2 s2 g
  rw [List.singleton_append, List.singleton_append, List.cons.injEq] at g2
  obtain ⟨h3, g3⟩ := g2
  have h3 : ([a.kind == 1, a.item.host, a.item.sec, a.item.http, a.item.pers] : List Bool) = [b.kind == 1, b.item.host, b.item.sec, b.item.http, b.item.pers] := flagSum_inj rfl (by omega : flagSum [a.kind == 1, a.item.host, a.item.sec, a.item.http, a.item.pers] = flagSum [b.kind == 1, b.item.host, b.item.sec, b.item.http, b.item.pers])
  simp only [List.cons.injEq, and_true] at h3
  obtain ⟨k1, k2, k3, k4, k5⟩ := h3
  obtain ⟨h4, g4⟩ := short_app (by omega) (by omega) g3
  obtain ⟨h5, g5⟩ := dots_app r4 s4 h4 g4
  have hk : a.kind = b.kind ∧ a.item = b.item := by
    rcases ka with ⟨c1, c2⟩ | ⟨c1, c2⟩
    · rcases kb with ⟨d1, d2⟩ | ⟨d1, d2⟩
      · rw [if_pos c1, if_pos d1] at g5
        exact ⟨c1.trans d1.symm, itemB_inj (r5 c1) (s5 d1) da db k2 k3 k4 k5 g5⟩
      · rw [c1, d1] at k1
        cases k1
    · rcases kb with ⟨d1, d2⟩ | ⟨d1, d2⟩
      · rw [c1, d1] at k1
        cases k1
      · exact ⟨c1.trans d1.symm, c2.trans d2.symm⟩
  exact sameE_iff.1 (by
    unfold sameE
    rw [h1, h2, hk.1, hk.2, h5]
    exact sameE_iff.2 rfl)
end Go.Proofs.YtkakcdojbgnocaaDoor
