/- Contracts and plain words that the laws' proofs stand on, put together. -/
import Derived.Test.YtkakcdojbgnocaaDoorLibAQ
import Derived.Test.YtkakcdojbgnocaaDoorLibAH
import Derived.Test.YtkakcdojbgnocaaDoorLibAI
import Derived.Test.YtkakcdojbgnocaaDoorLibAE
import Derived.Test.YtkakcdojbgnocaaDoorLibAA
/- Events in plain words. No program in it. -/
namespace Go.Proofs.YtkakcdojbgnocaaDoor
set_option linter.unusedVariables false

structure EventN where
  dot : DotN
  stamp : StampN
  kind : Int
  item : ItemL
  over : List DotN

/-- Are the values of two cookies the same, their keys aside? -/
def likeC (x y : ItemL) : Bool := x.val == y.val && (x.host == y.host && (x.sec == y.sec && (x.http == y.http && (x.pers == y.pers && (x.exp == y.exp && (x.made == y.made && (x.used == y.used)))))))
theorem sameKC_iff {x y : ItemL} : (sameKey x y && likeC x y) = true ↔ x = y := by
  unfold sameKey likeC
  simp only [Bool.and_eq_true, beq_iff_eq]
  constructor
  · rintro ⟨⟨h1, h2, h3⟩, h4, h5, h6, h7, h8, h9, h10, h11⟩
    cases x; cases y
    simp only at h1 h2 h3 h4 h5 h6 h7 h8 h9 h10 h11
    subst h1 h2 h3 h4 h5 h6 h7 h8 h9 h10 h11
    rfl
  · rintro rfl
    exact ⟨⟨rfl, rfl, rfl⟩, rfl, rfl, rfl, rfl, rfl, rfl, rfl, rfl⟩
def sameE (a b : EventN) : Bool := sameD a.dot b.dot && (sameT a.stamp b.stamp && (a.kind == b.kind && (sameKey a.item b.item && (likeC a.item b.item && sameDs a.over b.over))))
theorem sameE_iff {a b : EventN} : sameE a b = true ↔ a = b := by
  unfold sameE
  simp only [Bool.and_eq_true]
  constructor
  · rintro ⟨h1, h2, h3, h4, h5, h6⟩
    have e1 := sameD_iff.1 h1
    have e2 := sameT_iff.1 h2
    have e3 := sameKC_iff.1 (by rw [h4, h5]; rfl)
    have e4 := sameDs_iff.1 h6
    have e5 : a.kind = b.kind := by simpa using h3
    cases a; cases b
    simp only at e1 e2 e3 e4 e5
    subst e1 e2 e3 e4 e5
    rfl
  · rintro rfl
    have h := sameKC_iff.2 (rfl : a.item = a.item)
    rw [Bool.and_eq_true] at h
    exact ⟨sameD_iff.2 rfl, sameT_iff.2 rfl, by simp, h.1, h.2, sameDs_iff.2 rfl⟩

/-- Are an event's texts and lists short enough to be gone over? -/
def lightE (e : EventN) : Bool := decide (e.over.length ≤ 100) && (decide (e.item.name.length ≤ 2000) && (decide (e.item.dom.length ≤ 2000) && (decide (e.item.path.length ≤ 2000) && decide (e.item.val.length ≤ 2000))))

/-- May the k-th dot stand among those that an event is over? -/
def okO (L : List DotN) (d : DotN) (k : Nat) : Bool :=
  rightD (L.getD k ⟨0, 0, 0⟩) && ((k == 0 || lessD (L.getD (k - 1) ⟨0, 0, 0⟩) (L.getD k ⟨0, 0, 0⟩)) && !(((L.getD k ⟨0, 0, 0⟩).dev == d.dev && (L.getD k ⟨0, 0, 0⟩).inc == d.inc) && decide (d.seq ≤ (L.getD k ⟨0, 0, 0⟩).seq)))
def headE (e : EventN) : Bool := rightD e.dot && (rightT e.stamp && (e.stamp.dev == e.dot.dev && decide (e.over.length ≤ 64)))
def kindE (e : EventN) : Bool := if e.kind = 1 then rightX e.item else e.kind == 2 && (sameKey e.item ItemL.none && likeC e.item ItemL.none) && decide (0 < e.over.length)
def rightE (e : EventN) : Bool := headE e && ((List.range e.over.length).all (okO e.over e.dot) && kindE e)
/-- The bytes of an event that may be. -/
def itemBytes (x : ItemL) : List Int := short x.name.length ++ strBytes (str x.name) ++ (short x.dom.length ++ strBytes (str x.dom)) ++ (short x.path.length ++ strBytes (str x.path)) ++ (short x.val.length ++ strBytes (str x.val)) ++ short (foldI x.exp).toNat ++ short x.made.toNat ++ short x.used.toNat
def bytesE (e : EventN) : List Int := bytesD e.dot ++ bytesT e.stamp ++ [(flagSum [e.kind == 1, e.item.host, e.item.sec, e.item.http, e.item.pers] : Int)] ++ short e.over.length ++ e.over.flatMap bytesD ++ (if e.kind = 1 then itemBytes e.item else [])
end Go.Proofs.YtkakcdojbgnocaaDoor

/- How events as arguments are opened. -/
namespace Go.Proofs.YtkakcdojbgnocaaDoor
open Go.ChangeShapes Go.WideShapes Go.ChangeAt Go.RowKit
set_option linter.unusedVariables false

/-- A slice of flat structs that came in, as a struct's field. -/
theorem rows_at {H : Type} {enc : TypeId × Value → H} {P : Program} {w : World} {held : Bool} {α : Type} [Inhabited α] (en : α → List Value) (ok : α → Prop) {t e : TypeId} (z n : Nat) (ks : List Leaf) {fuel : Nat} {v : Value} {x : DataW H × List MemPlace} (ht : P.underlying t = some (.slice e)) (hC : P.cellsOf e = z) (hp : 0 < z)
    (hk : flatK P n e = some ks) (hD : ∀ cs, leavesOk ks cs → ∃ x, cs = en x ∧ ok x) (hf : DataW.trod enc P w 0 (fun _ => true) held fuel t [v] = some x) :
    ∃ a len cap, ∃ Q : List α, v = .slice a len cap ∧ RowOf en z w a len cap Q ∧ ∀ x ∈ Q, ok x := by
  obtain ⟨a, len, cap, m, hcs, h1, h2, h3, hall⟩ := elems_of z ht hC hp hf
  cases hcs
  have hq : ∀ i, ∃ x : α, i < len → ok x ∧ ∃ g off, a = some ⟨g, off, none⟩ ∧ ∀ (j : Nat) (v : Value), (en x)[j]? = some v → w.cell? ⟨g, off + i * z + j, none⟩ = some v := fun i => by
    by_cases hi : i < len
    · obtain ⟨b, off, cs', y, ha, hl, hc, hy⟩ := hall i hi
      obtain ⟨x, rfl, hx⟩ := hD cs' (leaves_of n e ks m cs' y hk hy)
      exact ⟨x, fun _ => ⟨hx, b, off, ha, hc⟩⟩
    · exact ⟨default, fun h => absurd h hi⟩
  refine ⟨a, len, cap, (List.range len).map fun i => Classical.choose (hq i), rfl, ⟨by simp, h1, h2, h3, fun i x hx => ?_⟩, fun x hx => ?_⟩
  · have hi : i < len := by have := (List.getElem?_eq_some_iff.1 hx).1; simpa using this
    rw [List.getElem?_map, List.getElem?_range hi] at hx
    cases hx
    exact (Classical.choose_spec (hq i) hi).2
  · obtain ⟨i, hi, rfl⟩ := List.mem_map.1 hx
    exact (Classical.choose_spec (hq i) (List.mem_range.1 hi)).1

theorem parts19 : ∀ (cs : List Value), cs.length = 19 → cs = (cs.drop 0).take 3 ++ ((cs.drop 3).take 3 ++ ((cs.drop 6).take 1 ++ ((cs.drop 7).take 3 ++ ((cs.drop 10).take 8 ++ (cs.drop 18).take 1))))
  | [v0, v1, v2, v3, v4, v5, v6, v7, v8, v9, v10, v11, v12, v13, v14, v15, v16, v17, v18], _ => rfl

theorem leaves_stampE {l : List Value} (q0 : leavesOk [.num .i64, .num .i64, .num .i64] l) : ∃ x : StampN, l = [.int .i64 x.wall, .int .i64 x.count, .int .i64 x.dev] := by
  obtain ⟨v0, l0, e0, ⟨a, rfl, z0⟩, q1⟩ := leaves_cons q0
  obtain ⟨v1, l1, e1, ⟨b, rfl, z1⟩, q2⟩ := leaves_cons q1
  obtain ⟨v2, l2, e2, ⟨c, rfl, z2⟩, q3⟩ := leaves_cons q2
  have e3 := leaves_nil q3
  subst e3 e2 e1 e0
  exact ⟨⟨a, b, c⟩, rfl⟩
theorem leaves_keyE {l : List Value} (q0 : leavesOk [.text, .text, .text] l) : ∃ x y z : List UInt8, l = [.string (str x), .string (str y), .string (str z)] ∧ x.length ≤ maxLen ∧ y.length ≤ maxLen ∧ z.length ≤ maxLen := by
  obtain ⟨v0, l0, e0, ⟨a, rfl, z0⟩, q1⟩ := leaves_cons q0
  obtain ⟨v1, l1, e1, ⟨b, rfl, z1⟩, q2⟩ := leaves_cons q1
  obtain ⟨v2, l2, e2, ⟨c, rfl, z2⟩, q3⟩ := leaves_cons q2
  have e3 := leaves_nil q3
  subst e3 e2 e1 e0
  exact ⟨a, b, c, rfl, z0, z1, z2⟩
theorem leaves_cooE {l : List Value} (q0 : leavesOk [.text, .flag, .flag, .flag, .flag, .num .i64, .num .i64, .num .i64] l) : ∃ (x : List UInt8) (f1 f2 f3 f4 : Bool) (i1 i2 i3 : Int), l = [.string (str x), .bool f1, .bool f2, .bool f3, .bool f4, .int .i64 i1, .int .i64 i2, .int .i64 i3] ∧ x.length ≤ maxLen := by
  obtain ⟨v0, l0, e0, ⟨a0, rfl, z0⟩, q1⟩ := leaves_cons q0
  obtain ⟨v1, l1, e1, ⟨a1, rfl⟩, q2⟩ := leaves_cons q1
  obtain ⟨v2, l2, e2, ⟨a2, rfl⟩, q3⟩ := leaves_cons q2
  obtain ⟨v3, l3, e3, ⟨a3, rfl⟩, q4⟩ := leaves_cons q3
  obtain ⟨v4, l4, e4, ⟨a4, rfl⟩, q5⟩ := leaves_cons q4
  obtain ⟨v5, l5, e5, ⟨a5, rfl, z5⟩, q6⟩ := leaves_cons q5
  obtain ⟨v6, l6, e6, ⟨a6, rfl, z6⟩, q7⟩ := leaves_cons q6
  obtain ⟨v7, l7, e7, ⟨a7, rfl, z7⟩, q8⟩ := leaves_cons q7
  have e8 := leaves_nil q8
  subst e8 e7 e6 e5 e4 e3 e2 e1 e0
  exact ⟨a0, a1, a2, a3, a4, a5, a6, a7, rfl, z0⟩

set_option maxRecDepth 100000 in
theorem event_of {H : Type} {enc : TypeId × Value → H} {w : World} {fuel : Nat} {cs : List Value} {x : DataW H × List MemPlace} (h : DataW.trod enc Tryd.prog w 0 (fun _ => true) true fuel 34 cs = some x) :
    ∃ (e : EventN) (a : Option Addr) (n c : Nat), cs = [.int .i64 e.dot.dev, .int .i64 e.dot.inc, .int .i64 e.dot.seq, .int .i64 e.stamp.wall, .int .i64 e.stamp.count, .int .i64 e.stamp.dev, .int .i64 e.kind, .string (str e.item.name), .string (str e.item.dom), .string (str e.item.path), .string (str e.item.val), .bool e.item.host, .bool e.item.sec, .bool e.item.http, .bool e.item.pers, .int .i64 e.item.exp, .int .i64 e.item.made, .int .i64 e.item.used, .slice a n c] ∧ RowOf encD 3 w a n c e.over ∧ FitD e.dot ∧ (∀ x ∈ e.over, FitD x) ∧ e.item.name.length ≤ maxLen ∧ e.item.dom.length ≤ maxLen ∧ e.item.path.length ≤ maxLen ∧ e.item.val.length ≤ maxLen := by
  obtain ⟨ys, n, -, -, hlen, hyl, hf⟩ := DataW.trod_struct Tryd.underlying34 h
  have hC : Tryd.prog.cellsOf 34 = 19 := by kernel_rfl
  have c0 : Tryd.prog.cellsOf 25 = 3 := by kernel_rfl
  have c1 : Tryd.prog.cellsOf 27 = 3 := by kernel_rfl
  have c2 : Tryd.prog.cellsOf 3 = 1 := by kernel_rfl
  have c3 : Tryd.prog.cellsOf 29 = 3 := by kernel_rfl
  have c4 : Tryd.prog.cellsOf 31 = 8 := by kernel_rfl
  have c5 : Tryd.prog.cellsOf 32 = 1 := by kernel_rfl
  rw [hC] at hlen
  have hp := parts19 cs hlen
  have g0 : DataW.trod enc Tryd.prog w 0 (fun _ => true) true n 25 ((cs.drop 0).take (Tryd.prog.cellsOf 25)) = ys[0]? := hf 0 _ rfl
  have g1 : DataW.trod enc Tryd.prog w 0 (fun _ => true) true n 27 ((cs.drop 3).take (Tryd.prog.cellsOf 27)) = ys[1]? := hf 1 _ rfl
  have g2 : DataW.trod enc Tryd.prog w 0 (fun _ => true) true n 3 ((cs.drop 6).take (Tryd.prog.cellsOf 3)) = ys[2]? := hf 2 _ rfl
  have g3 : DataW.trod enc Tryd.prog w 0 (fun _ => true) true n 29 ((cs.drop 7).take (Tryd.prog.cellsOf 29)) = ys[3]? := hf 3 _ rfl
  have g4 : DataW.trod enc Tryd.prog w 0 (fun _ => true) true n 31 ((cs.drop 10).take (Tryd.prog.cellsOf 31)) = ys[4]? := hf 4 _ rfl
  have g5 : DataW.trod enc Tryd.prog w 0 (fun _ => true) true n 32 ((cs.drop 18).take (Tryd.prog.cellsOf 32)) = ys[5]? := hf 5 _ rfl
  have hy : ys.length = 6 := hyl
  rw [List.getElem?_eq_getElem (by omega)] at g0 g1 g2 g3 g4 g5
  rw [c0] at g0
  rw [c1] at g1
  rw [c2] at g2
  rw [c3] at g3
  rw [c4] at g4
  rw [c5] at g5
  obtain ⟨d, e0, hd⟩ := leaves_dot (leaves_of 4 _ [.num .i64, .num .i64, .num .i64] _ _ _ (by kernel_rfl) g0)
  obtain ⟨s, e1⟩ := leaves_stampE (leaves_of 4 _ [.num .i64, .num .i64, .num .i64] _ _ _ (by kernel_rfl) g1)
  obtain ⟨t1, t2, t3, e3, z1, z2, z3⟩ := leaves_keyE (leaves_of 4 _ [.text, .text, .text] _ _ _ (by kernel_rfl) g3)
  obtain ⟨t4, f1, f2, f3, f4, i1, i2, i3, e4, z4⟩ := leaves_cooE (leaves_of 4 _ [.text, .flag, .flag, .flag, .flag, .num .i64, .num .i64, .num .i64] _ _ _ (by kernel_rfl) g4)
  obtain ⟨v2, e2⟩ : ∃ v, (cs.drop 6).take 1 = [v] := List.length_eq_one_iff.1 (by rw [List.length_take, List.length_drop]; omega)
  obtain ⟨v5, e5⟩ : ∃ v, (cs.drop 18).take 1 = [v] := List.length_eq_one_iff.1 (by rw [List.length_take, List.length_drop]; omega)
  rw [show (cs.drop 6).take 1 = [v2] from e2] at g2
  rw [show (cs.drop 18).take 1 = [v5] from e5] at g5
  obtain ⟨kd, ek, -, -⟩ := DataW.trod_int Tryd.underlying3 g2
  cases ek
  obtain ⟨a, len, cap, Q, rfl, hr, hfit⟩ := rows_at encD FitD 3 4 [.num .i64, .num .i64, .num .i64] Tryd.underlying32 (by kernel_rfl) (by decide) (by kernel_rfl) (fun cs h => leaves_dot h) g5
  refine ⟨⟨d, s, kd, ⟨t1, t2, t3, t4, f1, f2, f3, f4, i1, i2, i3⟩, Q⟩, a, len, cap, ?_, hr, hd, hfit, z1, z2, z3, z4⟩
  refine hp.trans ?_
  rw [e0, e1, e2, e3, e4, e5]
  rfl

set_option maxRecDepth 100000 in
theorem open_eventX {H : Type} {enc : TypeId × Value → H} {w : World} {r : Reach} {b0 : Nat} {v : Value} {d : DataW H} {p : List MemPlace} (hv : Value.okWide Tryd.prog w r b0 34 v) (h : DataW.Trod enc Tryd.prog w 0 (fun _ => true) true 34 v d p) :
    ∃ (e : EventN) (a : Option Addr) (n c : Nat), v = .agg #[.int .i64 e.dot.dev, .int .i64 e.dot.inc, .int .i64 e.dot.seq, .int .i64 e.stamp.wall, .int .i64 e.stamp.count, .int .i64 e.stamp.dev, .int .i64 e.kind, .string (str e.item.name), .string (str e.item.dom), .string (str e.item.path), .string (str e.item.val), .bool e.item.host, .bool e.item.sec, .bool e.item.http, .bool e.item.pers, .int .i64 e.item.exp, .int .i64 e.item.made, .int .i64 e.item.used, .slice a n c] ∧ RowOf encD 3 w a n c e.over ∧ e.item.name.length ≤ maxLen ∧ e.item.dom.length ≤ maxLen ∧ e.item.path.length ≤ maxLen ∧ e.item.val.length ≤ maxLen := by
  obtain ⟨cs, rfl, -⟩ := okWide_struct Tryd.underlying34 hv
  obtain ⟨fuel, hf⟩ := h
  obtain ⟨e, a, n, c, h1, h2, -, -, h3⟩ := event_of hf
  refine ⟨e, a, n, c, ?_, h2, h3⟩
  have : cs = #[.int .i64 e.dot.dev, .int .i64 e.dot.inc, .int .i64 e.dot.seq, .int .i64 e.stamp.wall, .int .i64 e.stamp.count, .int .i64 e.stamp.dev, .int .i64 e.kind, .string (str e.item.name), .string (str e.item.dom), .string (str e.item.path), .string (str e.item.val), .bool e.item.host, .bool e.item.sec, .bool e.item.http, .bool e.item.pers, .int .i64 e.item.exp, .int .i64 e.item.made, .int .i64 e.item.used, .slice a n c] := Array.toList_inj.mp (by simpa [Value.cells] using h1)
  rw [this]
end Go.Proofs.YtkakcdojbgnocaaDoor
