/- Contracts of the reference of layer 20: an event, packed. -/
import Derived.Test.YtkakcdojbgnocaaGreatDoorEventRef2
import Derived.Test.YtkakcdojbgnocaaGreatDoorLibAH
import Derived.Test.YtkakcdojbgnocaaGreatDoorLibAI
import Derived.Test.YtkakcdojbgnocaaGreatDoorLibAE
import Derived.Test.YtkakcdojbgnocaaGreatDoorLibAJ
import Derived.Test.YtkakcdojbgnocaaGreatDoorLibAA
namespace Go.Proofs.YtkakcdojbgnocaaGreatDoor
open Go.RowKit
set_option linter.unusedVariables false

/-- An event in its box, the dots that it is over, its cookie in a box of its own (block z), which the row of bytes that grows (q) leaves alone. -/
structure StW (w : World) (e : EventN) (a : Option Addr) (n c : Nat) (q : Option Addr) (z : Nat) (v : World) : Prop where
  o : ObjAt v w.heap.size [.int .i64 e.dot.dev, .int .i64 e.dot.inc, .int .i64 e.dot.seq, .int .i64 e.stamp.wall, .int .i64 e.stamp.count, .int .i64 e.stamp.dev, .int .i64 e.kind, .string (str e.item.name), .string (str e.item.dom), .string (str e.item.path), .string (str e.item.val), .bool e.item.host, .bool e.item.sec, .bool e.item.http, .bool e.item.pers, .int .i64 e.item.exp, .int .i64 e.item.made, .int .i64 e.item.used, .slice a n c]
  row : RowOf encD 3 v a n c e.over
  k : ObjAt v z [.string (str e.item.val), .bool e.item.host, .bool e.item.sec, .bool e.item.http, .bool e.item.pers, .int .i64 e.item.exp, .int .i64 e.item.made, .int .i64 e.item.used]
  ap : Apart q z
  hz : w.heap.size < z
  hb : Below w.heap.size w v
theorem StW.below {w v v' : World} {e : EventN} {a q : Option Addr} {n c z : Nat} (h : StW w e a n c q z v) (hx : Below v.heap.size v v') : StW w e a n c q z v' :=
  ⟨h.o.below hx h.o.lt, h.row.below hx, h.k.below hx h.k.lt, h.ap, h.hz, h.hb.trans (hx.mono h.hb.size)⟩
theorem StW.app {w v v' : World} {e : EventN} {a q q' : Option Addr} {n c z : Nat} (h : StW w e a n c q z v) (h0 : RowOf encD 3 w a n c e.over) (hx : Below (w.heap.size + 1) v v') (hg : GrownBut v v' q) (hn : q' = q ∨ ∃ g, q' = some ⟨g, 0, none⟩ ∧ v.heap.size ≤ g) : StW w e a n c q' z v' := by
  have hb2 : Below w.heap.size w v' := h.hb.trans (hx.mono (Nat.le_succ _))
  have hap : Apart q' z := by
    rcases hn with rfl | ⟨g, rfl, hg2⟩
    · exact h.ap
    · refine apart_iff.2 fun hk => ?_
      have e1 : g = z := at_some.1 hk
      have := h.k.lt
      omega
  refine ⟨h.o.below hx (Nat.lt_succ_self _), h0.below hb2, ?_, hap, h.hz, hb2⟩
  obtain ⟨t, ht⟩ := h.k.heap
  exact ⟨t, (hg.2 z h.k.lt h.ap).trans ht⟩

theorem textB_len (s : List UInt8) (h : s.length ≤ 2000) : (textBytes (str s)).length ≤ 2010 := by
  have e : (textBytes (str s)).length = (short s.length).length + s.length := by unfold textBytes strBytes; rw [List.length_append, List.length_map, str_size]; simp [str]
  have := short_ten s.length (by omega)
  omega
theorem fold_nat (m : Int) (h0 : -9223372036854775808 ≤ m) (h1 : m ≤ 9223372036854775807) : ∃ X : Nat, foldI m = (X : Int) ∧ X ≤ 18446744073709551615 := by
  unfold foldI
  split
  · exact ⟨(2 * m).toNat, by omega, by omega⟩
  · exact ⟨(-2 * m - 1).toNat, by omega, by omega⟩
theorem own_apart {base : Nat} {t : TypeId} {q : Option Addr} {n c : Nat} {xs : List Value} {v : World} (h : Owned base t q n c xs v) : Apart q v.heap.size := apart_iff.2 fun hk => Nat.lt_irrefl _ (h.at' _ hk).2
theorem one_byte (x : Int) : ∀ u ∈ [Value.int .u8 x], u.oneCell' = true := by
  intro u hu
  rw [List.mem_singleton] at hu
  subst hu
  rfl

theorem right_item {x : ItemL} (h : rightX x = true) : x.name.length ≤ 256 ∧ x.val.length ≤ 1024 ∧ x.path.length ≤ 256 ∧ (-1099511627776 ≤ x.exp ∧ x.exp ≤ 1099511627776) ∧ (0 ≤ x.made ∧ x.made ≤ 1099511627776) ∧ (0 ≤ x.used ∧ x.used ≤ 1099511627776) := by
  unfold rightX at h
  simp only [Bool.and_eq_true, Bool.not_eq_true', Bool.or_eq_false_iff, decide_eq_true_eq, decide_eq_false_iff_not] at h
  omega
theorem right_event {e : EventN} (h : rightE e = true) : rightD e.dot = true ∧ rightT e.stamp = true ∧ e.over.length ≤ 64 ∧ (∀ x ∈ e.over, rightD x = true) ∧ (e.kind = 1 → rightX e.item = true) := by
  unfold rightE headE kindE at h
  rw [Bool.and_eq_true, Bool.and_eq_true, Bool.and_eq_true, Bool.and_eq_true, Bool.and_eq_true, decide_eq_true_eq] at h
  obtain ⟨⟨h1, h2, h3, h4⟩, h5, h6⟩ := h
  refine ⟨h1, h2, h4, fun x hx => ?_, fun hk => by rw [if_pos hk] at h6; exact h6⟩
  obtain ⟨i, hi, rfl⟩ := List.mem_iff_getElem.1 hx
  have := List.all_eq_true.1 h5 i (List.mem_range.2 hi)
  unfold okO at this
  rw [Bool.and_eq_true, List.getD_eq_getElem?_getD, List.getElem?_eq_getElem hi] at this
  exact this.1

set_option maxHeartbeats 16000000 in
set_option maxRecDepth 100000 in
theorem refEPutC (e : EventN) (a : Option Addr) (n c : Nat) (w : World) (h : RowOf encD 3 w a n c e.over) (hr : rightE e = true) (hd : e.item.dom.length ≤ 2000) :
    Calls Tryz.prog 15 #[.agg #[.int .i64 e.dot.dev, .int .i64 e.dot.inc, .int .i64 e.dot.seq, .int .i64 e.stamp.wall, .int .i64 e.stamp.count, .int .i64 e.stamp.dev, .int .i64 e.kind, .string (str e.item.name), .string (str e.item.dom), .string (str e.item.path), .string (str e.item.val), .bool e.item.host, .bool e.item.sec, .bool e.item.http, .bool e.item.pers, .int .i64 e.item.exp, .int .i64 e.item.made, .int .i64 e.item.used, .slice a n c]] w (GivesOwned 5 ((bytesE e).map (Value.int .u8)) (bytesE e).length w) := by
  obtain ⟨r1, r2, r3, r4, r5⟩ := right_event hr
  obtain ⟨i0, hi, hz0, hz1, hz2⟩ := info_parts info8
  have hn := h.leq
  have hn64 : n ≤ 64 := by omega
  have hcm := h.capm
  have hcl := h.cle
  unfold maxLen at hcm
  have hb := below_alloc w (.cells #[.int .i64 e.dot.dev, .int .i64 e.dot.inc, .int .i64 e.dot.seq, .int .i64 e.stamp.wall, .int .i64 e.stamp.count, .int .i64 e.stamp.dev, .int .i64 e.kind, .string (str e.item.name), .string (str e.item.dom), .string (str e.item.path), .string (str e.item.val), .bool e.item.host, .bool e.item.sec, .bool e.item.http, .bool e.item.pers, .int .i64 e.item.exp, .int .i64 e.item.made, .int .i64 e.item.used, .slice a n c] 34)
  have o1 := ObjAt.new w #[.int .i64 e.dot.dev, .int .i64 e.dot.inc, .int .i64 e.dot.seq, .int .i64 e.stamp.wall, .int .i64 e.stamp.count, .int .i64 e.stamp.dev, .int .i64 e.kind, .string (str e.item.name), .string (str e.item.dom), .string (str e.item.path), .string (str e.item.val), .bool e.item.host, .bool e.item.sec, .bool e.item.http, .bool e.item.pers, .int .i64 e.item.exp, .int .i64 e.item.made, .int .i64 e.item.used, .slice a n c] 34
  have s1 : (w.alloc (.cells #[.int .i64 e.dot.dev, .int .i64 e.dot.inc, .int .i64 e.dot.seq, .int .i64 e.stamp.wall, .int .i64 e.stamp.count, .int .i64 e.stamp.dev, .int .i64 e.kind, .string (str e.item.name), .string (str e.item.dom), .string (str e.item.path), .string (str e.item.val), .bool e.item.host, .bool e.item.sec, .bool e.item.http, .bool e.item.pers, .int .i64 e.item.exp, .int .i64 e.item.made, .int .i64 e.item.used, .slice a n c] 34)).heap.size = w.heap.size + 1 := by simp
  generalize hv : w.alloc (.cells #[.int .i64 e.dot.dev, .int .i64 e.dot.inc, .int .i64 e.dot.seq, .int .i64 e.stamp.wall, .int .i64 e.stamp.count, .int .i64 e.stamp.dev, .int .i64 e.kind, .string (str e.item.name), .string (str e.item.dom), .string (str e.item.path), .string (str e.item.val), .bool e.item.host, .bool e.item.sec, .bool e.item.http, .bool e.item.pers, .int .i64 e.item.exp, .int .i64 e.item.made, .int .i64 e.item.used, .slice a n c] 34) = v at *
  have hRow := h.below hb
  -- the parts, as letters
  obtain ⟨y1, hy1⟩ : ∃ y, bytesD e.dot = y := ⟨_, rfl⟩
  obtain ⟨y2, hy2⟩ : ∃ y, bytesT e.stamp = y := ⟨_, rfl⟩
  obtain ⟨m1, hm1⟩ : ∃ m, y1.length = m := ⟨_, rfl⟩
  obtain ⟨m2, hm2⟩ : ∃ m, y2.length = m := ⟨_, rfl⟩
  obtain ⟨fs, hfs⟩ : ∃ f : Int, f = (flagSum [e.kind == 1, e.item.host, e.item.sec, e.item.http, e.item.pers] : Int) := ⟨_, rfl⟩
  obtain ⟨y4, hy4⟩ : ∃ y, short n = y := ⟨_, rfl⟩
  obtain ⟨m4, hm4⟩ : ∃ m, y4.length = m := ⟨_, rfl⟩
  have l1 : m1 ≤ 30 := by rw [← hm1, ← hy1]; exact bytesD_len r1
  have l2 : m2 ≤ 30 := by rw [← hm2, ← hy2]; exact bytesT_len r2
  have l4 : m4 ≤ 10 := by rw [← hm4, ← hy4]; exact short_ten n (by omega)
  have HD := fun w => refDPutC e.dot m1 w r1 (by rw [hy1, hm1])
  have HT := fun w => refTPutC e.stamp m2 w r2 (by rw [hy2, hm2])
  have HN := fun w => refNumC y4 n m4 w hy4 hm4 (by omega)
  rw [hy1] at HD
  rw [hy2] at HT
  unfold valT at HT
  have HF : ∀ (u : World) (b : Nat), u.heap.size = b → Calls Tryz.prog 36 #[.slice (some ⟨b, 0, none⟩) 5 5] (u.alloc (.cells #[.bool (e.kind == 1), .bool e.item.host, .bool e.item.sec, .bool e.item.http, .bool e.item.pers] 4)) (GivesOwned 5 [.int .u8 fs] 1 (u.alloc (.cells #[.bool (e.kind == 1), .bool e.item.host, .bool e.item.sec, .bool e.item.http, .bool e.item.pers] 4))) := fun u b hub => by
    subst hub
    rw [hfs]
    exact refFlagsC [e.kind == 1, e.item.host, e.item.sec, e.item.http, e.item.pers] 5 5 5 _ _ (reads_new u [.bool (e.kind == 1), .bool e.item.host, .bool e.item.sec, .bool e.item.http, .bool e.item.pers] 4) rfl (by decide) (by unfold maxLen; omega) rfl
  have HO : Hid (∀ x ∈ e.over, ∀ v, Calls Tryz.prog 34 #[.agg #[.int .i64 x.dev, .int .i64 x.inc, .int .i64 x.seq]] v (GivesOwned 5 ((bytesD x).map (Value.int .u8)) (bytesD x).length v)) := fun x hx v => refDPutC x _ v (r4 x hx) rfl
  have HOL : Hid (∀ x ∈ e.over, (bytesD x).length ≤ 30) := fun x hx => bytesD_len (r4 x hx)
  have HB : Hid (bytesE e = y1 ++ y2 ++ [fs] ++ y4 ++ e.over.flatMap bytesD ++ (if e.kind = 1 then itemBytes e.item else [])) := by
    show _ = _
    unfold bytesE
    rw [hy1, hy2, hn, hy4, hfs]
  have Y2 := Lib.hid hm2
  have Y4 := Lib.hid hm4
  have Y1 := Lib.hid hm1
  have HROW := Lib.hid h
  have R5 := Lib.hid r5
  have HDM := Lib.hid hd
  have HOV : Hid (e.over.length = n) := hn
  obtain ⟨kb, hkb⟩ : ∃ b, (e.kind == 1) = b := ⟨_, rfl⟩
  rw [hkb] at HF
  have KB := Lib.hid hkb
  have u0 := o1.cell 0 rfl; have u1 := o1.cell 1 rfl; have u2 := o1.cell 2 rfl; have u3 := o1.cell 3 rfl; have u4 := o1.cell 4 rfl; have u5 := o1.cell 5 rfl; have u6 := o1.cell 6 rfl; have u7 := o1.cell 7 rfl; have u8 := o1.cell 8 rfl; have u9 := o1.cell 9 rfl; have u10 := o1.cell 10 rfl; have u11 := o1.cell 11 rfl; have u12 := o1.cell 12 rfl; have u13 := o1.cell 13 rfl; have u14 := o1.cell 14 rfl; have u15 := o1.cell 15 rfl; have u16 := o1.cell 16 rfl; have u17 := o1.cell 17 rfl; have u18 := o1.cell 18 rfl
  unfold GivesOwned
  obtain ⟨BE, hBE⟩ : ∃ b, b = bytesE e := ⟨_, rfl⟩
  rw [← hBE]
  have HBE := Lib.hid hBE
  clear hBE h hr r1 r2 r4 r5 hy1 hy2 hm1 hm2 hy4 hm4 hfs hn hd
  go_enter Tryz.func15, Tryz.ntmps15
  go_wp2_with (first
    | (go_at_call 34; (with_reducible refine (HD _).mono ?_); rintro e1 v1 ⟨a1, c1, rfl, hr1, hx1⟩; have hb1 := hb.trans (hx1.mono hb.size); have hE := o1.below hx1 o1.lt; have hW1 := hRow.below hx1; have ho := hr1.base (base' := w.heap.size + 1) (by omega); have z1 := hb1.size; have z2 := hx1.size; have u0 := hE.cell 0 rfl; have u1 := hE.cell 1 rfl; have u2 := hE.cell 2 rfl; have u3 := hE.cell 3 rfl; have u4 := hE.cell 4 rfl; have u5 := hE.cell 5 rfl; have u6 := hE.cell 6 rfl; have u7 := hE.cell 7 rfl; have u8 := hE.cell 8 rfl; have u9 := hE.cell 9 rfl; have u10 := hE.cell 10 rfl; have u11 := hE.cell 11 rfl; have u12 := hE.cell 12 rfl; have u13 := hE.cell 13 rfl; have u14 := hE.cell 14 rfl; have u15 := hE.cell 15 rfl; have u16 := hE.cell 16 rfl; have u17 := hE.cell 17 rfl; have u18 := hE.cell 18 rfl)
    | (go_at_call 35; (with_reducible refine (HT _).mono ?_); rintro e2 v2 ⟨a2, c2, rfl, hr2, hx2⟩; have hb2 := hb1.trans (hx2.mono hb1.size); have hE := hE.below hx2 hE.lt; have hW2 := hW1.below hx2; have ho := ho.below hx2 (Nat.le_refl _); have z3 := hx2.size; have u0 := hE.cell 0 rfl; have u1 := hE.cell 1 rfl; have u2 := hE.cell 2 rfl; have u3 := hE.cell 3 rfl; have u4 := hE.cell 4 rfl; have u5 := hE.cell 5 rfl; have u6 := hE.cell 6 rfl; have u7 := hE.cell 7 rfl; have u8 := hE.cell 8 rfl; have u9 := hE.cell 9 rfl; have u10 := hE.cell 10 rfl; have u11 := hE.cell 11 rfl; have u12 := hE.cell 12 rfl; have u13 := hE.cell 13 rfl; have u14 := hE.cell 14 rfl; have u15 := hE.cell 15 rfl; have u16 := hE.cell 16 rfl; have u17 := hE.cell 17 rfl; have u18 := hE.cell 18 rfl)
    | (at_builtin; refine wpList_append_where rfl (.tmp 9) (.tmp 12) 40 rfl 5 i0 (.int .u8 0) 1 Tryz.underlying40 hi hz0 hz1 hz2 rfl ho rfl hr2.reads rfl (by rw [List.length_map, Y2.out]) hr2.nil0 (bytes_one y2 .u8) (m1 + m2) rfl (by unfold maxLen; omega) (by omega) (by omega) ?_; intro q3 g3 w3 hq3 hx3b hg3 hn3; have hb3 := hb2.trans (hx3b.mono (Nat.le_succ _)); have hE := hE.below hx3b (Nat.lt_succ_self _); have hW3 := HROW.out.below hb3; have ho := hq3; have z4 := hg3.1; have u0 := hE.cell 0 rfl; have u1 := hE.cell 1 rfl; have u2 := hE.cell 2 rfl; have u3 := hE.cell 3 rfl; have u4 := hE.cell 4 rfl; have u5 := hE.cell 5 rfl; have u6 := hE.cell 6 rfl; have u7 := hE.cell 7 rfl; have u8 := hE.cell 8 rfl; have u9 := hE.cell 9 rfl; have u10 := hE.cell 10 rfl; have u11 := hE.cell 11 rfl; have u12 := hE.cell 12 rfl; have u13 := hE.cell 13 rfl; have u14 := hE.cell 14 rfl; have u15 := hE.cell 15 rfl; have u16 := hE.cell 16 rfl; have u17 := hE.cell 17 rfl; have u18 := hE.cell 18 rfl; have oz := ObjAt.new w3 #[.string (str e.item.val), .bool e.item.host, .bool e.item.sec, .bool e.item.http, .bool e.item.pers, .int .i64 e.item.exp, .int .i64 e.item.made, .int .i64 e.item.used] 31; have bz := below_alloc w3 (.cells #[.string (str e.item.val), .bool e.item.host, .bool e.item.sec, .bool e.item.http, .bool e.item.pers, .int .i64 e.item.exp, .int .i64 e.item.made, .int .i64 e.item.used] 31); have hS : StW w e a n c q3 w3.heap.size (w3.alloc (.cells #[.string (str e.item.val), .bool e.item.host, .bool e.item.sec, .bool e.item.http, .bool e.item.pers, .int .i64 e.item.exp, .int .i64 e.item.made, .int .i64 e.item.used] 31)) := ⟨hE.below bz hE.lt, hW3.below bz, oz, own_apart ho, by omega, hb3.trans (bz.mono hb3.size)⟩; have ho := ho.below bz (Nat.le_refl _); have z5 := bz.size; have d0 := hS.k.cell 0 rfl; have d1 := hS.k.cell 1 rfl; have d2 := hS.k.cell 2 rfl; have d3 := hS.k.cell 3 rfl; have d4 := hS.k.cell 4 rfl; have d5 := hS.k.cell 5 rfl; have d6 := hS.k.cell 6 rfl; have d7 := hS.k.cell 7 rfl; have hE := hS.o; have u0 := hE.cell 0 rfl; have u1 := hE.cell 1 rfl; have u2 := hE.cell 2 rfl; have u3 := hE.cell 3 rfl; have u4 := hE.cell 4 rfl; have u5 := hE.cell 5 rfl; have u6 := hE.cell 6 rfl; have u7 := hE.cell 7 rfl; have u8 := hE.cell 8 rfl; have u9 := hE.cell 9 rfl; have u10 := hE.cell 10 rfl; have u11 := hE.cell 11 rfl; have u12 := hE.cell 12 rfl; have u13 := hE.cell 13 rfl; have u14 := hE.cell 14 rfl; have u15 := hE.cell 15 rfl; have u16 := hE.cell 16 rfl; have u17 := hE.cell 17 rfl; have u18 := hE.cell 18 rfl; clear hE hW3 oz bz)
    | (go_at_call 36; (with_reducible refine (HF _ _ (by simp)).mono ?_); rintro e4 v4 ⟨a4, c4, rfl, hr4, hx4⟩; have hS := (hS.below (below_alloc _ _)).below hx4; have ho := (ho.below (below_alloc _ _) (Nat.le_refl _)).below hx4 (Nat.le_refl _); have z6 := hS.o.lt; have hE := hS.o; have u0 := hE.cell 0 rfl; have u1 := hE.cell 1 rfl; have u2 := hE.cell 2 rfl; have u3 := hE.cell 3 rfl; have u4 := hE.cell 4 rfl; have u5 := hE.cell 5 rfl; have u6 := hE.cell 6 rfl; have u7 := hE.cell 7 rfl; have u8 := hE.cell 8 rfl; have u9 := hE.cell 9 rfl; have u10 := hE.cell 10 rfl; have u11 := hE.cell 11 rfl; have u12 := hE.cell 12 rfl; have u13 := hE.cell 13 rfl; have u14 := hE.cell 14 rfl; have u15 := hE.cell 15 rfl; have u16 := hE.cell 16 rfl; have u17 := hE.cell 17 rfl; have u18 := hE.cell 18 rfl; clear hE)
    | (at_builtin; refine wpList_append_where rfl (.tmp 16) (.tmp 29) 40 rfl 5 i0 (.int .u8 0) 1 Tryz.underlying40 hi hz0 hz1 hz2 rfl ho rfl hr4.reads rfl (by rfl) hr4.nil0 (one_byte fs) (m1 + m2 + 1) rfl (by unfold maxLen; omega) (by omega) (by omega) ?_; intro q5 g5 w5 hq5 hx5b hg5 hn5; have hS := hS.app HROW.out hx5b hg5 hn5; have ho := hq5; have z7 := hS.o.lt; have hE := hS.o; have u0 := hE.cell 0 rfl; have u1 := hE.cell 1 rfl; have u2 := hE.cell 2 rfl; have u3 := hE.cell 3 rfl; have u4 := hE.cell 4 rfl; have u5 := hE.cell 5 rfl; have u6 := hE.cell 6 rfl; have u7 := hE.cell 7 rfl; have u8 := hE.cell 8 rfl; have u9 := hE.cell 9 rfl; have u10 := hE.cell 10 rfl; have u11 := hE.cell 11 rfl; have u12 := hE.cell 12 rfl; have u13 := hE.cell 13 rfl; have u14 := hE.cell 14 rfl; have u15 := hE.cell 15 rfl; have u16 := hE.cell 16 rfl; have u17 := hE.cell 17 rfl; have u18 := hE.cell 18 rfl; clear hE)
    | (go_at_call 37; (with_reducible refine (HN _).mono ?_); rintro e6 v6 ⟨a6, c6, rfl, hr6, hx6⟩; have hS := hS.below hx6; have ho := ho.below hx6 (Nat.le_refl _); have z8 := hS.o.lt; have hE := hS.o; have u0 := hE.cell 0 rfl; have u1 := hE.cell 1 rfl; have u2 := hE.cell 2 rfl; have u3 := hE.cell 3 rfl; have u4 := hE.cell 4 rfl; have u5 := hE.cell 5 rfl; have u6 := hE.cell 6 rfl; have u7 := hE.cell 7 rfl; have u8 := hE.cell 8 rfl; have u9 := hE.cell 9 rfl; have u10 := hE.cell 10 rfl; have u11 := hE.cell 11 rfl; have u12 := hE.cell 12 rfl; have u13 := hE.cell 13 rfl; have u14 := hE.cell 14 rfl; have u15 := hE.cell 15 rfl; have u16 := hE.cell 16 rfl; have u17 := hE.cell 17 rfl; have u18 := hE.cell 18 rfl; clear hE)
    | (at_builtin; refine wpList_append_where rfl (.tmp 31) (.tmp 36) 40 rfl 5 i0 (.int .u8 0) 1 Tryz.underlying40 hi hz0 hz1 hz2 rfl ho rfl hr6.reads rfl (by rw [List.length_map, Y4.out]) hr6.nil0 (bytes_one y4 .u8) (m1 + m2 + 1 + m4) rfl (by unfold maxLen; omega) (by omega) (by omega) ?_; intro q7 g7 w7 hq7 hx7b hg7 hn7; have hS := hS.app HROW.out hx7b hg7 hn7; have ho := hq7; have z9 := hS.o.lt))
  have hR0 : Owned (w.heap.size + 1) 5 q7 (m1 + m2 + 1 + m4) g7 ((y1 ++ y2 ++ [fs] ++ y4).map (Value.int .u8)) w7 := by rw [List.map_append, List.map_append, List.map_append]; exact ho
  have HR0 : Hid ((y1 ++ y2 ++ [fs] ++ y4).length = m1 + m2 + 1 + m4) := by
    show _ = _
    rw [List.length_append, List.length_append, List.length_append, Y1.out, Y2.out, Y4.out]
    rfl
  have hm0 : m1 + m2 + 1 + m4 ≤ 71 := by omega
  obtain ⟨R0, hR0e⟩ : ∃ r, r = y1 ++ y2 ++ [fs] ++ y4 := ⟨_, rfl⟩
  obtain ⟨m0, hm0e⟩ : ∃ m, m = m1 + m2 + 1 + m4 := ⟨_, rfl⟩
  rw [← hR0e, ← hm0e] at hR0
  rw [← hR0e, ← hm0e] at HR0
  rw [← hm0e] at hm0
  have HB2 : Hid (BE = R0 ++ e.over.flatMap bytesD ++ (if e.kind = 1 then itemBytes e.item else [])) := by
    show _ = _
    rw [HBE.out, HB.out, hR0e]
  rw [← hm0e]
  have HS0 := Lib.hid hS
  have HO0 := Lib.hid hR0
  have hk2 : (e.kind != 1) = !kb := by rw [bne, KB.out]
  clear hS hR0 ho hR0e hm0e HF HD HT HN
  go_loopw [3, 5] (fun o i wr => ∃ (k m C : Nat) (q : Option Addr) (R : List Int), k ≤ n ∧ o = .slice q m C ∧ i = .int .i64 (k : Int) ∧ m ≤ 71 + 30 * k ∧ Hid (R = R0 ++ (e.over.take k).flatMap bytesD ∧ R.length = m) ∧ StW w e a n c q w3.heap.size wr ∧ Owned (w.heap.size + 1) 5 q m C (R.map (Value.int .u8)) wr) (fun _ i _ => n - (intOf i).toNat)
  case atStart => exact ⟨0, m0, _, _, R0, Nat.zero_le _, by first | rfl | simp, rfl, by omega, (show Hid _ from ⟨by rw [List.take_zero, List.flatMap_nil, List.append_nil], HR0.out⟩), HS0.out, HO0.out⟩
  case round =>
    clear HS0 HO0 HR0
    obtain ⟨k, m, C, q, R, hk, rfl, rfl, hmk, HR, hS, ho⟩ := hrel
    have zw := hS.o.lt; have hE := hS.o; have hK := hS.k
    have u0 := hE.cell 0 rfl; have u1 := hE.cell 1 rfl; have u2 := hE.cell 2 rfl; have u3 := hE.cell 3 rfl; have u4 := hE.cell 4 rfl; have u5 := hE.cell 5 rfl; have u6 := hE.cell 6 rfl; have u7 := hE.cell 7 rfl; have u8 := hE.cell 8 rfl; have u9 := hE.cell 9 rfl; have u10 := hE.cell 10 rfl; have u11 := hE.cell 11 rfl; have u12 := hE.cell 12 rfl; have u13 := hE.cell 13 rfl; have u14 := hE.cell 14 rfl; have u15 := hE.cell 15 rfl; have u16 := hE.cell 16 rfl; have u17 := hE.cell 17 rfl; have u18 := hE.cell 18 rfl
    have d0 := hK.cell 0 rfl; have d1 := hK.cell 1 rfl; have d2 := hK.cell 2 rfl; have d3 := hK.cell 3 rfl; have d4 := hK.cell 4 rfl; have d5 := hK.cell 5 rfl; have d6 := hK.cell 6 rfl; have d7 := hK.cell 7 rfl
    by_cases hlt : k < n
    · have hlt' : (k : Int) < (n : Int) := by omega
      obtain ⟨x, g, off, hxk, rfl, p0, p1, p2⟩ := dot_at hS.row k hlt
      have hmem := List.mem_of_getElem? hxk
      have HX := fun v => HO.out x hmem v
      have hyl := HOL.out x hmem
      have HST : Hid ((e.over.take (k + 1)).flatMap bytesD = (e.over.take k).flatMap bytesD ++ bytesD x) := by show _ = _; rw [take_snocI hxk, List.flatMap_append]; simp
      obtain ⟨mm, hmm⟩ : ∃ m, (bytesD x).length = m := ⟨_, rfl⟩
      rw [hmm] at HX hyl
      have HMM := Lib.hid hmm
      obtain ⟨y, hy⟩ : ∃ y, y = bytesD x := ⟨_, rfl⟩
      rw [← hy] at HX HMM HST
      clear hmm hy hxk hmem hE hK
      go_wp2_with (first
        | (go_at_call 34; (with_reducible refine (HX _).mono ?_); rintro e8 v8 ⟨a8, c8, rfl, hr8, hx8⟩; have hS := hS.below hx8; have ho := ho.below hx8 (Nat.le_refl _); have zx := hS.o.lt)
        | (at_builtin; refine wpList_append_where rfl (.tmp 45) (.tmp 51) 40 rfl 5 i0 (.int .u8 0) 1 Tryz.underlying40 hi hz0 hz1 hz2 rfl ho rfl hr8.reads rfl (by rw [List.length_map, HMM.out]) hr8.nil0 (bytes_one y .u8) (m + mm) rfl (by unfold maxLen; omega) (by omega) (by omega) ?_; intro q9 g9 w9 hq9 hx9b hg9 hn9; have hS := hS.app HROW.out hx9b hg9 hn9; have ho := hq9))
      go_roundw
      case rel => exact ⟨k + 1, m + mm, g9, q9, R ++ y, by omega, rfl, by go_num, by omega, (show Hid _ from ⟨by rw [HST.out, HR.out.1, List.append_assoc], by rw [List.length_append, HR.out.2, HMM.out]⟩), hS, by rw [List.map_append]; exact ho⟩
      case measure => simp [intOf]; omega
    · obtain rfl : k = n := by omega
      have e0 : e.over.take k = e.over := List.take_of_length_le (by rw [HOV.out]; exact Nat.le_refl _)
      rw [e0] at HR
      have HB3 : Hid (BE = R ++ (if e.kind = 1 then itemBytes e.item else [])) := by show _ = _; rw [HB2.out, HR.out.1]
      have hRl := Lib.hid HR.out.2
      clear HR e0 HB2
      cases kb with
      | false =>
        have k1 : ¬ e.kind = 1 := by have := KB.out; simpa using this
        rw [if_neg k1, List.append_nil] at HB3
        clear k1
        have HS := Lib.hid hS.hb
        have HO9 := Lib.hid ho
        clear hS ho hE hK
        go_wp2_with fail
        go_ret
        exact ⟨q, C, by rw [HB3.out, hRl.out]; rfl, by rw [HB3.out, hRl.out]; exact HO9.out.base (Nat.le_succ _), HS.out⟩
      | true =>
        have k1 : e.kind = 1 := by have := KB.out; simpa using this
        obtain ⟨i1, i2, i3, ⟨i4, i5⟩, ⟨i6, i7⟩, i8, i9⟩ := right_item (R5.out k1)
        rw [if_pos k1] at HB3
        clear k1
        obtain ⟨M1, hM1⟩ := Int.eq_ofNat_of_zero_le i6
        obtain ⟨M2, hM2⟩ := Int.eq_ofNat_of_zero_le i8
        obtain ⟨X, hX, hXl⟩ := fold_nat e.item.exp (by omega) (by omega)
        have HIT : Hid (itemBytes e.item = textBytes (str e.item.name) ++ textBytes (str e.item.dom) ++ textBytes (str e.item.path) ++ textBytes (str e.item.val) ++ short X ++ short M1 ++ short M2) := by show _ = _; unfold itemBytes textBytes; rw [hX, hM1, hM2, str_size, str_size, str_size, str_size, Int.toNat_natCast, Int.toNat_natCast, Int.toNat_natCast]
        have tl_name : (textBytes (str e.item.name)).length ≤ 2010 := textB_len e.item.name (by omega)
        have tl_dom : (textBytes (str e.item.dom)).length ≤ 2010 := textB_len e.item.dom (HDM.out)
        have tl_path : (textBytes (str e.item.path)).length ≤ 2010 := textB_len e.item.path (by omega)
        have tl_val : (textBytes (str e.item.val)).length ≤ 2010 := textB_len e.item.val (by omega)
        have sl5 := short_ten X hXl; have sl6 := short_ten M1 (by omega); have sl7 := short_ten M2 (by omega)
        have G1 := fun v => refPackTextC (str e.item.name) (textBytes (str e.item.name)).length v (by rw [str_size]; omega) rfl
        have G2 := fun v => refPackTextC (str e.item.dom) (textBytes (str e.item.dom)).length v (by rw [str_size]; have := HDM.out; omega) rfl
        have G3 := fun v => refPackTextC (str e.item.path) (textBytes (str e.item.path)).length v (by rw [str_size]; omega) rfl
        have G4 := fun v => refPackTextC (str e.item.val) (textBytes (str e.item.val)).length v (by rw [str_size]; omega) rfl
        have G5 := fun v => refPutIntO (short X) X (short X).length e.item.exp v hX rfl rfl hXl (by omega) (by omega)
        have G6 := fun v => refNumC (short M1) M1 (short M1).length v rfl rfl (by omega)
        have G7 := fun v => refNumC (short M2) M2 (short M2).length v rfl rfl (by omega)
        obtain ⟨t1, ht1⟩ : ∃ t, t = (textBytes (str e.item.name)) := ⟨_, rfl⟩
        rw [← ht1] at G1 tl_name HIT
        clear ht1
        obtain ⟨xt1, hxt1⟩ : ∃ m, t1.length = m := ⟨_, rfl⟩
        rw [hxt1] at G1 tl_name
        have Lt1 := Lib.hid hxt1
        clear hxt1
        obtain ⟨t2, ht2⟩ : ∃ t, t = (textBytes (str e.item.dom)) := ⟨_, rfl⟩
        rw [← ht2] at G2 tl_dom HIT
        clear ht2
        obtain ⟨xt2, hxt2⟩ : ∃ m, t2.length = m := ⟨_, rfl⟩
        rw [hxt2] at G2 tl_dom
        have Lt2 := Lib.hid hxt2
        clear hxt2
        obtain ⟨t3, ht3⟩ : ∃ t, t = (textBytes (str e.item.path)) := ⟨_, rfl⟩
        rw [← ht3] at G3 tl_path HIT
        clear ht3
        obtain ⟨xt3, hxt3⟩ : ∃ m, t3.length = m := ⟨_, rfl⟩
        rw [hxt3] at G3 tl_path
        have Lt3 := Lib.hid hxt3
        clear hxt3
        obtain ⟨t4, ht4⟩ : ∃ t, t = (textBytes (str e.item.val)) := ⟨_, rfl⟩
        rw [← ht4] at G4 tl_val HIT
        clear ht4
        obtain ⟨xt4, hxt4⟩ : ∃ m, t4.length = m := ⟨_, rfl⟩
        rw [hxt4] at G4 tl_val
        have Lt4 := Lib.hid hxt4
        clear hxt4
        obtain ⟨t5, ht5⟩ : ∃ t, t = (short X) := ⟨_, rfl⟩
        rw [← ht5] at G5 sl5 HIT
        clear ht5
        obtain ⟨xt5, hxt5⟩ : ∃ m, t5.length = m := ⟨_, rfl⟩
        rw [hxt5] at G5 sl5
        have Lt5 := Lib.hid hxt5
        clear hxt5
        obtain ⟨t6, ht6⟩ : ∃ t, t = (short M1) := ⟨_, rfl⟩
        rw [← ht6] at G6 sl6 HIT
        clear ht6
        obtain ⟨xt6, hxt6⟩ : ∃ m, t6.length = m := ⟨_, rfl⟩
        rw [hxt6] at G6 sl6
        have Lt6 := Lib.hid hxt6
        clear hxt6
        obtain ⟨t7, ht7⟩ : ∃ t, t = (short M2) := ⟨_, rfl⟩
        rw [← ht7] at G7 sl7 HIT
        clear ht7
        obtain ⟨xt7, hxt7⟩ : ∃ m, t7.length = m := ⟨_, rfl⟩
        rw [hxt7] at G7 sl7
        have Lt7 := Lib.hid hxt7
        clear hxt7
        have HX1 := Lib.hid hX
        clear hX i4 i5
        have M1b : IntKind.u64.wrap (M1 : Int) = (M1 : Int) := by rw [show IntKind.u64.wrap (M1 : Int) = (M1 : Int) % 18446744073709551616 from rfl]; omega
        have M2b : IntKind.u64.wrap (M2 : Int) = (M2 : Int) := by rw [show IntKind.u64.wrap (M2 : Int) = (M2 : Int) % 18446744073709551616 from rfl]; omega
        have hmk2 : m ≤ 1991 := by omega
        clear hE hK hmk i1 i2 i3 i6 i7 i8 i9 hXl
        go_wp2_with (first
          | (go_at_call 38; (with_reducible refine (G1 _).mono ?_); rintro e20 v20 ⟨a20, c20, rfl, hr20, hx20⟩; have hS := hS.below hx20; have ho := ho.below hx20 (Nat.le_refl _); have zy := hS.o.lt; have hE := hS.o; have u0 := hE.cell 0 rfl; have u1 := hE.cell 1 rfl; have u2 := hE.cell 2 rfl; have u3 := hE.cell 3 rfl; have u4 := hE.cell 4 rfl; have u5 := hE.cell 5 rfl; have u6 := hE.cell 6 rfl; have u7 := hE.cell 7 rfl; have u8 := hE.cell 8 rfl; have u9 := hE.cell 9 rfl; have u10 := hE.cell 10 rfl; have u11 := hE.cell 11 rfl; have u12 := hE.cell 12 rfl; have u13 := hE.cell 13 rfl; have u14 := hE.cell 14 rfl; have u15 := hE.cell 15 rfl; have u16 := hE.cell 16 rfl; have u17 := hE.cell 17 rfl; have u18 := hE.cell 18 rfl; have d0 := hS.k.cell 0 rfl; have d1 := hS.k.cell 1 rfl; have d2 := hS.k.cell 2 rfl; have d3 := hS.k.cell 3 rfl; have d4 := hS.k.cell 4 rfl; have d5 := hS.k.cell 5 rfl; have d6 := hS.k.cell 6 rfl; have d7 := hS.k.cell 7 rfl; clear hE)
          | (at_builtin; refine wpList_append_where rfl (.tmp 57) (.tmp 61) 40 rfl 5 i0 (.int .u8 0) 1 Tryz.underlying40 hi hz0 hz1 hz2 rfl ho rfl hr20.reads rfl (by rw [List.length_map, Lt1.out]) hr20.nil0 (bytes_one t1 .u8) (m + xt1) rfl (by unfold maxLen; omega) (by omega) (by omega) ?_; intro q21 g21 w21 hq21 hx21b hg21 hn21; have hS := hS.app HROW.out hx21b hg21 hn21; have ho := hq21; have zy := hS.o.lt; have hE := hS.o; have u0 := hE.cell 0 rfl; have u1 := hE.cell 1 rfl; have u2 := hE.cell 2 rfl; have u3 := hE.cell 3 rfl; have u4 := hE.cell 4 rfl; have u5 := hE.cell 5 rfl; have u6 := hE.cell 6 rfl; have u7 := hE.cell 7 rfl; have u8 := hE.cell 8 rfl; have u9 := hE.cell 9 rfl; have u10 := hE.cell 10 rfl; have u11 := hE.cell 11 rfl; have u12 := hE.cell 12 rfl; have u13 := hE.cell 13 rfl; have u14 := hE.cell 14 rfl; have u15 := hE.cell 15 rfl; have u16 := hE.cell 16 rfl; have u17 := hE.cell 17 rfl; have u18 := hE.cell 18 rfl; have d0 := hS.k.cell 0 rfl; have d1 := hS.k.cell 1 rfl; have d2 := hS.k.cell 2 rfl; have d3 := hS.k.cell 3 rfl; have d4 := hS.k.cell 4 rfl; have d5 := hS.k.cell 5 rfl; have d6 := hS.k.cell 6 rfl; have d7 := hS.k.cell 7 rfl; clear hE)
          | (go_at_call 38; (with_reducible refine (G2 _).mono ?_); rintro e22 v22 ⟨a22, c22, rfl, hr22, hx22⟩; have hS := hS.below hx22; have ho := ho.below hx22 (Nat.le_refl _); have zy := hS.o.lt; have hE := hS.o; have u0 := hE.cell 0 rfl; have u1 := hE.cell 1 rfl; have u2 := hE.cell 2 rfl; have u3 := hE.cell 3 rfl; have u4 := hE.cell 4 rfl; have u5 := hE.cell 5 rfl; have u6 := hE.cell 6 rfl; have u7 := hE.cell 7 rfl; have u8 := hE.cell 8 rfl; have u9 := hE.cell 9 rfl; have u10 := hE.cell 10 rfl; have u11 := hE.cell 11 rfl; have u12 := hE.cell 12 rfl; have u13 := hE.cell 13 rfl; have u14 := hE.cell 14 rfl; have u15 := hE.cell 15 rfl; have u16 := hE.cell 16 rfl; have u17 := hE.cell 17 rfl; have u18 := hE.cell 18 rfl; have d0 := hS.k.cell 0 rfl; have d1 := hS.k.cell 1 rfl; have d2 := hS.k.cell 2 rfl; have d3 := hS.k.cell 3 rfl; have d4 := hS.k.cell 4 rfl; have d5 := hS.k.cell 5 rfl; have d6 := hS.k.cell 6 rfl; have d7 := hS.k.cell 7 rfl; clear hE)
          | (at_builtin; refine wpList_append_where rfl (.tmp 63) (.tmp 67) 40 rfl 5 i0 (.int .u8 0) 1 Tryz.underlying40 hi hz0 hz1 hz2 rfl ho rfl hr22.reads rfl (by rw [List.length_map, Lt2.out]) hr22.nil0 (bytes_one t2 .u8) (m + xt1 + xt2) rfl (by unfold maxLen; omega) (by omega) (by omega) ?_; intro q23 g23 w23 hq23 hx23b hg23 hn23; have hS := hS.app HROW.out hx23b hg23 hn23; have ho := hq23; have zy := hS.o.lt; have hE := hS.o; have u0 := hE.cell 0 rfl; have u1 := hE.cell 1 rfl; have u2 := hE.cell 2 rfl; have u3 := hE.cell 3 rfl; have u4 := hE.cell 4 rfl; have u5 := hE.cell 5 rfl; have u6 := hE.cell 6 rfl; have u7 := hE.cell 7 rfl; have u8 := hE.cell 8 rfl; have u9 := hE.cell 9 rfl; have u10 := hE.cell 10 rfl; have u11 := hE.cell 11 rfl; have u12 := hE.cell 12 rfl; have u13 := hE.cell 13 rfl; have u14 := hE.cell 14 rfl; have u15 := hE.cell 15 rfl; have u16 := hE.cell 16 rfl; have u17 := hE.cell 17 rfl; have u18 := hE.cell 18 rfl; have d0 := hS.k.cell 0 rfl; have d1 := hS.k.cell 1 rfl; have d2 := hS.k.cell 2 rfl; have d3 := hS.k.cell 3 rfl; have d4 := hS.k.cell 4 rfl; have d5 := hS.k.cell 5 rfl; have d6 := hS.k.cell 6 rfl; have d7 := hS.k.cell 7 rfl; clear hE)
          | (go_at_call 38; (with_reducible refine (G3 _).mono ?_); rintro e24 v24 ⟨a24, c24, rfl, hr24, hx24⟩; have hS := hS.below hx24; have ho := ho.below hx24 (Nat.le_refl _); have zy := hS.o.lt; have hE := hS.o; have u0 := hE.cell 0 rfl; have u1 := hE.cell 1 rfl; have u2 := hE.cell 2 rfl; have u3 := hE.cell 3 rfl; have u4 := hE.cell 4 rfl; have u5 := hE.cell 5 rfl; have u6 := hE.cell 6 rfl; have u7 := hE.cell 7 rfl; have u8 := hE.cell 8 rfl; have u9 := hE.cell 9 rfl; have u10 := hE.cell 10 rfl; have u11 := hE.cell 11 rfl; have u12 := hE.cell 12 rfl; have u13 := hE.cell 13 rfl; have u14 := hE.cell 14 rfl; have u15 := hE.cell 15 rfl; have u16 := hE.cell 16 rfl; have u17 := hE.cell 17 rfl; have u18 := hE.cell 18 rfl; have d0 := hS.k.cell 0 rfl; have d1 := hS.k.cell 1 rfl; have d2 := hS.k.cell 2 rfl; have d3 := hS.k.cell 3 rfl; have d4 := hS.k.cell 4 rfl; have d5 := hS.k.cell 5 rfl; have d6 := hS.k.cell 6 rfl; have d7 := hS.k.cell 7 rfl; clear hE)
          | (at_builtin; refine wpList_append_where rfl (.tmp 69) (.tmp 73) 40 rfl 5 i0 (.int .u8 0) 1 Tryz.underlying40 hi hz0 hz1 hz2 rfl ho rfl hr24.reads rfl (by rw [List.length_map, Lt3.out]) hr24.nil0 (bytes_one t3 .u8) (m + xt1 + xt2 + xt3) rfl (by unfold maxLen; omega) (by omega) (by omega) ?_; intro q25 g25 w25 hq25 hx25b hg25 hn25; have hS := hS.app HROW.out hx25b hg25 hn25; have ho := hq25; have zy := hS.o.lt; have hE := hS.o; have u0 := hE.cell 0 rfl; have u1 := hE.cell 1 rfl; have u2 := hE.cell 2 rfl; have u3 := hE.cell 3 rfl; have u4 := hE.cell 4 rfl; have u5 := hE.cell 5 rfl; have u6 := hE.cell 6 rfl; have u7 := hE.cell 7 rfl; have u8 := hE.cell 8 rfl; have u9 := hE.cell 9 rfl; have u10 := hE.cell 10 rfl; have u11 := hE.cell 11 rfl; have u12 := hE.cell 12 rfl; have u13 := hE.cell 13 rfl; have u14 := hE.cell 14 rfl; have u15 := hE.cell 15 rfl; have u16 := hE.cell 16 rfl; have u17 := hE.cell 17 rfl; have u18 := hE.cell 18 rfl; have d0 := hS.k.cell 0 rfl; have d1 := hS.k.cell 1 rfl; have d2 := hS.k.cell 2 rfl; have d3 := hS.k.cell 3 rfl; have d4 := hS.k.cell 4 rfl; have d5 := hS.k.cell 5 rfl; have d6 := hS.k.cell 6 rfl; have d7 := hS.k.cell 7 rfl; clear hE)
          | (go_at_call 38; (with_reducible refine (G4 _).mono ?_); rintro e26 v26 ⟨a26, c26, rfl, hr26, hx26⟩; have hS := hS.below hx26; have ho := ho.below hx26 (Nat.le_refl _); have zy := hS.o.lt; have hE := hS.o; have u0 := hE.cell 0 rfl; have u1 := hE.cell 1 rfl; have u2 := hE.cell 2 rfl; have u3 := hE.cell 3 rfl; have u4 := hE.cell 4 rfl; have u5 := hE.cell 5 rfl; have u6 := hE.cell 6 rfl; have u7 := hE.cell 7 rfl; have u8 := hE.cell 8 rfl; have u9 := hE.cell 9 rfl; have u10 := hE.cell 10 rfl; have u11 := hE.cell 11 rfl; have u12 := hE.cell 12 rfl; have u13 := hE.cell 13 rfl; have u14 := hE.cell 14 rfl; have u15 := hE.cell 15 rfl; have u16 := hE.cell 16 rfl; have u17 := hE.cell 17 rfl; have u18 := hE.cell 18 rfl; have d0 := hS.k.cell 0 rfl; have d1 := hS.k.cell 1 rfl; have d2 := hS.k.cell 2 rfl; have d3 := hS.k.cell 3 rfl; have d4 := hS.k.cell 4 rfl; have d5 := hS.k.cell 5 rfl; have d6 := hS.k.cell 6 rfl; have d7 := hS.k.cell 7 rfl; clear hE)
          | (at_builtin; refine wpList_append_where rfl (.tmp 75) (.tmp 78) 40 rfl 5 i0 (.int .u8 0) 1 Tryz.underlying40 hi hz0 hz1 hz2 rfl ho rfl hr26.reads rfl (by rw [List.length_map, Lt4.out]) hr26.nil0 (bytes_one t4 .u8) (m + xt1 + xt2 + xt3 + xt4) rfl (by unfold maxLen; omega) (by omega) (by omega) ?_; intro q27 g27 w27 hq27 hx27b hg27 hn27; have hS := hS.app HROW.out hx27b hg27 hn27; have ho := hq27; have zy := hS.o.lt; have hE := hS.o; have u0 := hE.cell 0 rfl; have u1 := hE.cell 1 rfl; have u2 := hE.cell 2 rfl; have u3 := hE.cell 3 rfl; have u4 := hE.cell 4 rfl; have u5 := hE.cell 5 rfl; have u6 := hE.cell 6 rfl; have u7 := hE.cell 7 rfl; have u8 := hE.cell 8 rfl; have u9 := hE.cell 9 rfl; have u10 := hE.cell 10 rfl; have u11 := hE.cell 11 rfl; have u12 := hE.cell 12 rfl; have u13 := hE.cell 13 rfl; have u14 := hE.cell 14 rfl; have u15 := hE.cell 15 rfl; have u16 := hE.cell 16 rfl; have u17 := hE.cell 17 rfl; have u18 := hE.cell 18 rfl; have d0 := hS.k.cell 0 rfl; have d1 := hS.k.cell 1 rfl; have d2 := hS.k.cell 2 rfl; have d3 := hS.k.cell 3 rfl; have d4 := hS.k.cell 4 rfl; have d5 := hS.k.cell 5 rfl; have d6 := hS.k.cell 6 rfl; have d7 := hS.k.cell 7 rfl; clear hE)
          | (go_at_call 39; (with_reducible refine (G5 _).mono ?_); rintro e28 v28 ⟨a28, c28, rfl, hr28, hx28⟩; have hS := hS.below hx28; have ho := ho.below hx28 (Nat.le_refl _); have zy := hS.o.lt; have hE := hS.o; have u0 := hE.cell 0 rfl; have u1 := hE.cell 1 rfl; have u2 := hE.cell 2 rfl; have u3 := hE.cell 3 rfl; have u4 := hE.cell 4 rfl; have u5 := hE.cell 5 rfl; have u6 := hE.cell 6 rfl; have u7 := hE.cell 7 rfl; have u8 := hE.cell 8 rfl; have u9 := hE.cell 9 rfl; have u10 := hE.cell 10 rfl; have u11 := hE.cell 11 rfl; have u12 := hE.cell 12 rfl; have u13 := hE.cell 13 rfl; have u14 := hE.cell 14 rfl; have u15 := hE.cell 15 rfl; have u16 := hE.cell 16 rfl; have u17 := hE.cell 17 rfl; have u18 := hE.cell 18 rfl; have d0 := hS.k.cell 0 rfl; have d1 := hS.k.cell 1 rfl; have d2 := hS.k.cell 2 rfl; have d3 := hS.k.cell 3 rfl; have d4 := hS.k.cell 4 rfl; have d5 := hS.k.cell 5 rfl; have d6 := hS.k.cell 6 rfl; have d7 := hS.k.cell 7 rfl; clear hE)
          | (at_builtin; refine wpList_append_where rfl (.tmp 80) (.tmp 83) 40 rfl 5 i0 (.int .u8 0) 1 Tryz.underlying40 hi hz0 hz1 hz2 rfl ho rfl hr28.reads rfl (by rw [List.length_map, Lt5.out]) hr28.nil0 (bytes_one t5 .u8) (m + xt1 + xt2 + xt3 + xt4 + xt5) rfl (by unfold maxLen; omega) (by omega) (by omega) ?_; intro q29 g29 w29 hq29 hx29b hg29 hn29; have hS := hS.app HROW.out hx29b hg29 hn29; have ho := hq29; have zy := hS.o.lt; have hE := hS.o; have u0 := hE.cell 0 rfl; have u1 := hE.cell 1 rfl; have u2 := hE.cell 2 rfl; have u3 := hE.cell 3 rfl; have u4 := hE.cell 4 rfl; have u5 := hE.cell 5 rfl; have u6 := hE.cell 6 rfl; have u7 := hE.cell 7 rfl; have u8 := hE.cell 8 rfl; have u9 := hE.cell 9 rfl; have u10 := hE.cell 10 rfl; have u11 := hE.cell 11 rfl; have u12 := hE.cell 12 rfl; have u13 := hE.cell 13 rfl; have u14 := hE.cell 14 rfl; have u15 := hE.cell 15 rfl; have u16 := hE.cell 16 rfl; have u17 := hE.cell 17 rfl; have u18 := hE.cell 18 rfl; have d0 := hS.k.cell 0 rfl; have d1 := hS.k.cell 1 rfl; have d2 := hS.k.cell 2 rfl; have d3 := hS.k.cell 3 rfl; have d4 := hS.k.cell 4 rfl; have d5 := hS.k.cell 5 rfl; have d6 := hS.k.cell 6 rfl; have d7 := hS.k.cell 7 rfl; clear hE)
          | (go_at_call 37; (with_reducible refine (G6 _).mono ?_); rintro e30 v30 ⟨a30, c30, rfl, hr30, hx30⟩; have hS := hS.below hx30; have ho := ho.below hx30 (Nat.le_refl _); have zy := hS.o.lt; have hE := hS.o; have u0 := hE.cell 0 rfl; have u1 := hE.cell 1 rfl; have u2 := hE.cell 2 rfl; have u3 := hE.cell 3 rfl; have u4 := hE.cell 4 rfl; have u5 := hE.cell 5 rfl; have u6 := hE.cell 6 rfl; have u7 := hE.cell 7 rfl; have u8 := hE.cell 8 rfl; have u9 := hE.cell 9 rfl; have u10 := hE.cell 10 rfl; have u11 := hE.cell 11 rfl; have u12 := hE.cell 12 rfl; have u13 := hE.cell 13 rfl; have u14 := hE.cell 14 rfl; have u15 := hE.cell 15 rfl; have u16 := hE.cell 16 rfl; have u17 := hE.cell 17 rfl; have u18 := hE.cell 18 rfl; have d0 := hS.k.cell 0 rfl; have d1 := hS.k.cell 1 rfl; have d2 := hS.k.cell 2 rfl; have d3 := hS.k.cell 3 rfl; have d4 := hS.k.cell 4 rfl; have d5 := hS.k.cell 5 rfl; have d6 := hS.k.cell 6 rfl; have d7 := hS.k.cell 7 rfl; clear hE)
          | (at_builtin; refine wpList_append_where rfl (.tmp 85) (.tmp 89) 40 rfl 5 i0 (.int .u8 0) 1 Tryz.underlying40 hi hz0 hz1 hz2 rfl ho rfl hr30.reads rfl (by rw [List.length_map, Lt6.out]) hr30.nil0 (bytes_one t6 .u8) (m + xt1 + xt2 + xt3 + xt4 + xt5 + xt6) rfl (by unfold maxLen; omega) (by omega) (by omega) ?_; intro q31 g31 w31 hq31 hx31b hg31 hn31; have hS := hS.app HROW.out hx31b hg31 hn31; have ho := hq31; have zy := hS.o.lt; have hE := hS.o; have u0 := hE.cell 0 rfl; have u1 := hE.cell 1 rfl; have u2 := hE.cell 2 rfl; have u3 := hE.cell 3 rfl; have u4 := hE.cell 4 rfl; have u5 := hE.cell 5 rfl; have u6 := hE.cell 6 rfl; have u7 := hE.cell 7 rfl; have u8 := hE.cell 8 rfl; have u9 := hE.cell 9 rfl; have u10 := hE.cell 10 rfl; have u11 := hE.cell 11 rfl; have u12 := hE.cell 12 rfl; have u13 := hE.cell 13 rfl; have u14 := hE.cell 14 rfl; have u15 := hE.cell 15 rfl; have u16 := hE.cell 16 rfl; have u17 := hE.cell 17 rfl; have u18 := hE.cell 18 rfl; have d0 := hS.k.cell 0 rfl; have d1 := hS.k.cell 1 rfl; have d2 := hS.k.cell 2 rfl; have d3 := hS.k.cell 3 rfl; have d4 := hS.k.cell 4 rfl; have d5 := hS.k.cell 5 rfl; have d6 := hS.k.cell 6 rfl; have d7 := hS.k.cell 7 rfl; clear hE)
          | (go_at_call 37; (with_reducible refine (G7 _).mono ?_); rintro e32 v32 ⟨a32, c32, rfl, hr32, hx32⟩; have hS := hS.below hx32; have ho := ho.below hx32 (Nat.le_refl _); have zy := hS.o.lt; have hE := hS.o; have u0 := hE.cell 0 rfl; have u1 := hE.cell 1 rfl; have u2 := hE.cell 2 rfl; have u3 := hE.cell 3 rfl; have u4 := hE.cell 4 rfl; have u5 := hE.cell 5 rfl; have u6 := hE.cell 6 rfl; have u7 := hE.cell 7 rfl; have u8 := hE.cell 8 rfl; have u9 := hE.cell 9 rfl; have u10 := hE.cell 10 rfl; have u11 := hE.cell 11 rfl; have u12 := hE.cell 12 rfl; have u13 := hE.cell 13 rfl; have u14 := hE.cell 14 rfl; have u15 := hE.cell 15 rfl; have u16 := hE.cell 16 rfl; have u17 := hE.cell 17 rfl; have u18 := hE.cell 18 rfl; have d0 := hS.k.cell 0 rfl; have d1 := hS.k.cell 1 rfl; have d2 := hS.k.cell 2 rfl; have d3 := hS.k.cell 3 rfl; have d4 := hS.k.cell 4 rfl; have d5 := hS.k.cell 5 rfl; have d6 := hS.k.cell 6 rfl; have d7 := hS.k.cell 7 rfl; clear hE)
          | (at_builtin; refine wpList_append_where rfl (.tmp 91) (.tmp 95) 40 rfl 5 i0 (.int .u8 0) 1 Tryz.underlying40 hi hz0 hz1 hz2 rfl ho rfl hr32.reads rfl (by rw [List.length_map, Lt7.out]) hr32.nil0 (bytes_one t7 .u8) (m + xt1 + xt2 + xt3 + xt4 + xt5 + xt6 + xt7) rfl (by unfold maxLen; omega) (by omega) (by omega) ?_; intro q33 g33 w33 hq33 hx33b hg33 hn33; have hS := hS.app HROW.out hx33b hg33 hn33; have ho := hq33; have zy := hS.o.lt; have hE := hS.o; have u0 := hE.cell 0 rfl; have u1 := hE.cell 1 rfl; have u2 := hE.cell 2 rfl; have u3 := hE.cell 3 rfl; have u4 := hE.cell 4 rfl; have u5 := hE.cell 5 rfl; have u6 := hE.cell 6 rfl; have u7 := hE.cell 7 rfl; have u8 := hE.cell 8 rfl; have u9 := hE.cell 9 rfl; have u10 := hE.cell 10 rfl; have u11 := hE.cell 11 rfl; have u12 := hE.cell 12 rfl; have u13 := hE.cell 13 rfl; have u14 := hE.cell 14 rfl; have u15 := hE.cell 15 rfl; have u16 := hE.cell 16 rfl; have u17 := hE.cell 17 rfl; have u18 := hE.cell 18 rfl; have d0 := hS.k.cell 0 rfl; have d1 := hS.k.cell 1 rfl; have d2 := hS.k.cell 2 rfl; have d3 := hS.k.cell 3 rfl; have d4 := hS.k.cell 4 rfl; have d5 := hS.k.cell 5 rfl; have d6 := hS.k.cell 6 rfl; have d7 := hS.k.cell 7 rfl; clear hE))
        go_ret
        have HLEN : BE.length = m + xt1 + xt2 + xt3 + xt4 + xt5 + xt6 + xt7 := by rw [HB3.out, HIT.out]; simp only [List.length_append, hRl.out, Lt1.out, Lt2.out, Lt3.out, Lt4.out, Lt5.out, Lt6.out, Lt7.out]; omega
        refine ⟨q33, g33, by rw [HLEN]; rfl, by rw [HLEN, HB3.out, HIT.out]; simp only [List.map_append, ← List.append_assoc]; exact ho.base (Nat.le_succ _), hS.hb⟩
end Go.Proofs.YtkakcdojbgnocaaGreatDoor
