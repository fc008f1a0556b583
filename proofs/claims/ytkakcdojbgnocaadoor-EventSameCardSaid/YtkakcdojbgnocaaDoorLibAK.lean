/- Contracts and plain words that the laws' proofs stand on, put together. -/
import Derived.Test.YtkakcdojbgnocaaDoorClockUp
import Derived.Test.YtkakcdojbgnocaaDoorLibAA
import Derived.BigQuiet
import Derived.Deep.RegionHeld3
import Derived.Test.YtkakcdojbgnocaaDoorLibAF
/- The program's own contracts of layer 19: which of two stamps is ahead (cmp.Or over three comparisons). -/
namespace Go.Proofs.YtkakcdojbgnocaaDoor
open Go.RowKit
set_option linter.unusedVariables false

end Go.Proofs.YtkakcdojbgnocaaDoor

/- The program's own contracts of layer 19: what a clock is in memory; a new one, a tick, what is told of it. -/
namespace Go.Proofs.YtkakcdojbgnocaaDoor
open Go.RowKit
set_option linter.unusedVariables false

/-- What the program's clock is in memory: its time and its last stamp, one block. -/
def ClkIs (w : World) (p : Nat) (F : Nat → Prop) (c : ClockN) : Prop := ObjAt w p [.int .i64 c.now, .int .i64 c.last.wall, .int .i64 c.last.count, .int .i64 c.last.dev] ∧ ∀ k, F k → k = p
/-- A clock behind a pointer: its block, all blocks that are its own (F), and what it shows. -/
structure ClkAt (w : World) (p : Nat) (F : Nat → Prop) (c : ClockN) : Prop where
  own : F p
  lt : ∀ k, F k → k < w.heap.size
  ok : OkK c
  is : ClkIs w p F c
theorem ClkAt.keeps {G : Nat → Prop} {w w' : World} {p : Nat} {F : Nat → Prop} {c : ClockN} (h : ClkAt w p F c) (hk : Keeps G w w') (hd : ∀ k, F k → ¬ G k) : ClkAt w' p F c :=
  ⟨h.own, fun k hF => Nat.lt_of_lt_of_le (h.lt k hF) hk.size, h.ok, h.is.1.keeps hk (hd p h.own), h.is.2⟩

/-- A call that changes a clock: it shows c then, and all else stays. -/
def KChanged (p : Nat) (F : Nat → Prop) (c : ClockN) (v : Value) (w : World) (e : Ending) (w' : World) : Prop :=
  e = .returned v ∧ ∃ F', ClkAt w' p F' c ∧ Keeps F w w' ∧ ∀ k, F' k → F k ∨ w.heap.size ≤ k
theorem ClkAt.chg {w w' : World} {p : Nat} {F : Nat → Prop} {c c' : ClockN} (h : ClkAt w p F c) (hv : ObjAt w' p [.int .i64 c'.now, .int .i64 c'.last.wall, .int .i64 c'.last.count, .int .i64 c'.last.dev]) (hok : OkK c') (hk : Keeps F w w') (v : Value) : KChanged p F c' v w (.returned v) w' :=
  ⟨rfl, F, ⟨h.own, fun k hF => Nat.lt_of_lt_of_le (h.lt k hF) hk.size, hok, hv, h.is.2⟩, hk, fun k h => .inl h⟩
theorem ClkAt.same {w w' : World} {p : Nat} {F : Nat → Prop} {c : ClockN} (h : ClkAt w p F c) (hb : Below w.heap.size w w') (v : Value) : KChanged p F c v w (.returned v) w' :=
  h.chg (h.is.1.below hb h.is.1.lt) h.ok (Keeps.new hb) v
theorem KChanged.early {p : Nat} {F : Nat → Prop} {c : ClockN} {v : Value} {w w1 w' : World} {e : Ending} (h : KChanged p F c v w1 e w') (hb : Below w.heap.size w w1) : KChanged p F c v w e w' := by
  obtain ⟨rfl, F', h1, h2, h3⟩ := h
  exact ⟨rfl, F', h1, (Keeps.new (F := F) hb).trans h2 (fun _ _ h => h), fun k hk => (h3 k hk).imp id fun h => Nat.le_trans hb.size h⟩

/-- A stamp stored into a block. -/
theorem set3 {v : World} {B : Nat} {x y z : Value} (o : ObjAt v B [x, y, z]) (a b d : Value) : ObjAt (((v.setCell ⟨B, 0, none⟩ a).setCell ⟨B, 1, none⟩ b).setCell ⟨B, 2, none⟩ d) B [a, b, d] := ((o.set 0 a).set 1 b).set 2 d
theorem set3_below {w v : World} {B K : Nat} (h : Below K w v) (hB : K ≤ B) (a b d : Value) : Below K w (((v.setCell ⟨B, 0, none⟩ a).setCell ⟨B, 1, none⟩ b).setCell ⟨B, 2, none⟩ d) := ((h.setCell (p := ⟨B, 0, none⟩) hB a).setCell (p := ⟨B, 1, none⟩) hB b).setCell (p := ⟨B, 2, none⟩) hB d
theorem set3_other {v : World} {p B : Nat} {vs : List Value} (o : ObjAt v p vs) (h : B ≠ p) (a b d : Value) : ObjAt (((v.setCell ⟨B, 0, none⟩ a).setCell ⟨B, 1, none⟩ b).setCell ⟨B, 2, none⟩ d) p vs := ((o.other (p := ⟨B, 0, none⟩) h a).other (p := ⟨B, 1, none⟩) h b).other (p := ⟨B, 2, none⟩) h d
theorem set3_keeps {F : Nat → Prop} {w v : World} {B : Nat} (h : Keeps F w v) (hB : F B ∨ w.heap.size ≤ B) (a b d : Value) : Keeps F w (((v.setCell ⟨B, 0, none⟩ a).setCell ⟨B, 1, none⟩ b).setCell ⟨B, 2, none⟩ d) := by
  refine ⟨h.os, h.tape, h.output, by simpa using h.size, fun k hk hn => ?_⟩
  have e : k ≠ B := by
    rintro rfl
    rcases hB with c | c
    · exact hn c
    · omega
  rw [Below.heap_setCell _ _ _ _ e, Below.heap_setCell _ _ _ _ e, Below.heap_setCell _ _ _ _ e]
  exact h.block k hk hn

end Go.Proofs.YtkakcdojbgnocaaDoor

/- The program's own contracts of layer 19: the next stamp, a stamp taken in. -/
namespace Go.Proofs.YtkakcdojbgnocaaDoor
open Go.RowKit
set_option linter.unusedVariables false

theorem take_up (c : ClockN) (s : StampN) : takeK c s = if lessT c.last ⟨s.wall, s.count, c.last.dev⟩ = true then ⟨c.now, ⟨s.wall, s.count, c.last.dev⟩⟩ else c := by
  unfold takeK
  by_cases h : c.last.wall < s.wall ∨ (c.last.wall = s.wall ∧ c.last.count < s.count)
  · rw [if_pos h, if_pos]
    unfold lessT
    dsimp only
    split
    · rw [decide_eq_true_iff]; omega
    · rw [if_pos (by omega), decide_eq_true_iff]; omega
  · rw [if_neg h, if_neg]
    unfold lessT
    dsimp only
    split
    · rw [decide_eq_true_iff]; omega
    · split
      · rw [decide_eq_true_iff]; omega
      · rw [decide_eq_true_iff]; omega
theorem right_fit {s : StampN} (h : rightT s = true) : FitT s := by
  have := rightT_iff.1 h
  exact ⟨by omega, by omega, by omega⟩

theorem hear_is (c : ClockN) (s : StampN) : hearK c s = if rightT s = true ∧ c.now + 60000 < s.wall then (c, 8) else restoreK c s := by
  unfold hearK restoreK
  cases rightT s with
  | false => simp
  | true => simp
theorem ClkAt.over {w w' : World} {p : Nat} {F : Nat → Prop} {c : ClockN} (h : ClkAt w p F c) (hb : Below w.heap.size w w') : ClkAt w' p F c :=
  h.keeps (Keeps.new (F := fun _ => False) hb) (fun _ _ h => h)

end Go.Proofs.YtkakcdojbgnocaaDoor

/- The program's own contracts of layer 19: a nil clock; a stamp packed, and read. -/
namespace Go.Proofs.YtkakcdojbgnocaaDoor
open Go.RowKit
set_option linter.unusedVariables false

set_option maxHeartbeats 2000000 in
set_option maxRecDepth 100000 in
theorem kPutYes (base q : Nat) (a : Option Addr) (l : List Int) (s : StampN) (w : World) (hw : Wr 5 base q a l w) (hlen : l.length ≤ 1000000) (hbase : base ≤ w.heap.size) (h : rightT s = true) :
    Calls Tryd.prog 23 #[.pointer (some ⟨q, 0, none⟩), valT s] w (PutGives base q a (l ++ bytesT s) w) := by
  have HR := fun v => kRightC s v (right_fit h)
  rw [h] at HR
  obtain ⟨d0, d1, e0, e1, s0, s1⟩ := rightT_iff.1 h
  obtain ⟨x, y, t⟩ := s
  unfold valT bytesT at *
  dsimp only at HR d0 d1 e0 e1 s0 s1 ⊢
  clear h
  obtain ⟨D, rfl⟩ := Int.eq_ofNat_of_zero_le d0
  obtain ⟨I, rfl⟩ := Int.eq_ofNat_of_zero_le e0
  obtain ⟨S, rfl⟩ := Int.eq_ofNat_of_zero_le s0
  have o1 := ObjAt.new w #[.int .i64 (D : Int), .int .i64 (I : Int), .int .i64 (S : Int)] 27
  have b1 := below_alloc w (.cells #[.int .i64 (D : Int), .int .i64 (I : Int), .int .i64 (S : Int)] 27)
  have hlt1 := o1.lt
  have u0 := o1.cell 0 rfl; have u1 := o1.cell 1 rfl; have u2 := o1.cell 2 rfl
  rw [Int.toNat_natCast, Int.toNat_natCast, Int.toNat_natCast, ← List.append_assoc, ← List.append_assoc]
  have t1 := short_ten D (by omega)
  have t2 := short_ten I (by omega)
  have q1 : IntKind.u64.wrap (D : Int) = (D : Int) := by rw [IntKind.wrap_u64]; omega
  have q2 : IntKind.u64.wrap (I : Int) = (I : Int) := by rw [IntKind.wrap_u64]; omega
  have q3 : IntKind.u64.wrap (S : Int) = (S : Int) := by rw [IntKind.wrap_u64]; omega
  have H1 := fun w hw hb => wNumC base q D a l w hw (by omega) hb (by omega)
  have H2 := fun a w hw hb => wNumC base q I a (l ++ short D) w hw (by rw [List.length_append]; omega) hb (by omega)
  have H3 := fun a w hw hb => wNumC base q S a (l ++ short D ++ short I) w hw (by rw [List.length_append, List.length_append]; omega) hb (by omega)
  generalize l ++ short D = l1 at *
  generalize l1 ++ short I = l2 at *
  generalize l2 ++ short S = l3 at *
  clear d0 d1 e0 e1 s0 s1 t1 t2 hlen
  have hpw := hw.lt.2
  have har := fun k h => (hw.at' k h).2.1
  have hw1 := hw.below b1
  go_enter Tryd.func23, Tryd.ntmps23
  go_wp2_with (go_at_call 19; (with_reducible refine (HR _).mono ?_); rintro e w2 ⟨rfl, hx2⟩; have o2 := o1.below hx2 hlt1; have hw2 := hw1.below hx2; have b2 := b1.trans (hx2.mono b1.size); have s2 := Nat.lt_of_lt_of_le hlt1 hx2.size; clear hx2)
  have bd : Below w2.heap.size w2 w2.drew := (Below.refl _ w2).drew
  have od := o2.below bd s2
  have hwd := hw2.below bd
  have b2d := b2.trans (bd.mono b2.size)
  have sd : w.heap.size < w2.drew.heap.size := Nat.lt_of_lt_of_le s2 bd.size
  go_region_held3 (fun w' => w'.cell? ⟨w.heap.size, 0, none⟩ = some (.int .i64 (D : Int)) ∧ w'.cell? ⟨w.heap.size, 1, none⟩ = some (.int .i64 (I : Int)) ∧ w'.cell? ⟨w.heap.size, 2, none⟩ = some (.int .i64 (S : Int)))
    (first | exact ⟨o5.cell 0 rfl, o5.cell 1 rfl, o5.cell 2 rfl⟩ | exact ⟨o4.cell 0 rfl, o4.cell 1 rfl, o4.cell 2 rfl⟩ | exact ⟨o3.cell 0 rfl, o3.cell 1 rfl, o3.cell 2 rfl⟩ | exact ⟨od.cell 0 rfl, od.cell 1 rfl, od.cell 2 rfl⟩)
    (first
      | (go_at_call 25; (with_reducible refine (H1 _ hwd (Nat.le_trans hbase b2d.size)).mono ?_); rintro e w3 ⟨rfl, a3, hw3, k3, n3⟩; have o3 := od.keeps (Keeps.ofKept k3) (fun h => h.elim (fun e => by omega) (fun h => by have := har _ h; omega)); have K3 := (Kept.of b2d (p := q) (a := a)).trans (Near.refl _ _) k3; have N3 := n3.early b2d.size; have ap3 : ¬ At a3 w.heap.size := (apart_iff.1 (n3 _ sd (apart_iff.2 (fun h => by have := har _ h; omega)))); have sd3 := Nat.lt_of_lt_of_le sd k3.size; have hb3 := Nat.le_trans hbase K3.size)
      | (go_at_call 25; (with_reducible refine (H2 _ _ hw3 hb3).mono ?_); rintro e w4 ⟨rfl, a4, hw4, k4, n4⟩; have o4 := o3.keeps (Keeps.ofKept k4) (fun h => h.elim (fun e => by omega) ap3); have K4 := K3.trans N3 k4; have N4 := N3.trans n4 K3.size; have ap4 : ¬ At a4 w.heap.size := (apart_iff.1 (n4 _ sd3 (apart_iff.2 ap3))); have hb4 := Nat.le_trans hbase K4.size)
      | (go_at_call 25; (with_reducible refine (H3 _ _ hw4 hb4).mono ?_); rintro e w5 ⟨rfl, a5, hw5, k5, n5⟩; have o5 := o4.keeps (Keeps.ofKept k5) (fun h => h.elim (fun e => by omega) ap4); have K5 := K4.trans N4 k5; have N5 := N4.trans n5 K4.size))
  all_goals (
    go_wp2
    go_end0
    exact ⟨rfl, a5, hw5, K5, N5⟩)

theorem Kept.set3 {p B : Nat} {w v : World} (h : Kept p none w v) (hB : w.heap.size ≤ B) (a b d : Value) : Kept p none w (((v.setCell ⟨B, 0, none⟩ a).setCell ⟨B, 1, none⟩ b).setCell ⟨B, 2, none⟩ d) :=
  ⟨h.os, h.tape, h.output, by simpa using h.size, fun k hk h1 h2 => by
    have e : k ≠ B := by omega
    rw [Below.heap_setCell _ _ _ _ e, Below.heap_setCell _ _ _ _ e, Below.heap_setCell _ _ _ _ e]
    exact h.block k hk h1 h2⟩
theorem ObjAt.mem {w : World} {b : Nat} {vs : List Value} (h : ObjAt w b vs) {i : Nat} {v : Value} (hc : w.cell? ⟨b, i, none⟩ = some v) : v ∈ vs := by
  obtain ⟨e, h⟩ := h.heap
  have : vs[i]? = some v := by simpa [World.cell?, h] using hc
  exact List.mem_of_getElem? this
/-- A cell of a block without bytes in it is written. -/
theorem RdX.other {p : Nat} {r : RdN} {w : World} (h : RdX p r w) {b : Nat} {vs : List Value} (o : ObjAt w b vs) (hv : ∀ n, Value.int .u8 n ∉ vs) (hp : b ≠ p) (i : Nat) (v : Value) : RdX p r (w.setCell ⟨b, i, none⟩ v) := by
  obtain ⟨a, n, c, h1, h2, h3, h4, h4', h5, h6, h7, h8, h9, h10⟩ := h
  refine ⟨a, n, c, by simpa using h1, ?_, ?_, by rw [World.frozen?_setCell]; exact h4, by rw [World.frozen?_setCell]; exact h4', ?_, h6, h7, h8, h9, h10⟩
  · rw [World.cell?_setCell_other _ _ _ _ (fun h => hp (congrArg Addr.block h))]; exact h2
  · rw [World.cell?_setCell_other _ _ _ _ (fun h => hp (congrArg Addr.block h))]; exact h3
  · intro j u hu
    obtain ⟨b', off, hb, hcell⟩ := h5 j u hu
    refine ⟨b', off, hb, ?_⟩
    have hne : b ≠ b' := by
      rintro rfl
      have hm := o.mem hcell
      rw [List.getElem?_map] at hu
      obtain ⟨x, -, rfl⟩ := Option.map_eq_some_iff.1 hu
      exact hv _ hm
    rw [World.cell?_setCell_other _ _ _ _ (fun h => hne (congrArg Addr.block h))]
    exact hcell
theorem no_byte (a b c : Int) (n : Int) : Value.int .u8 n ∉ [Value.int .i64 a, Value.int .i64 b, Value.int .i64 c] := by simp
theorem RdX.set3 {p : Nat} {r : RdN} {w : World} (h : RdX p r w) {B : Nat} {x y z : Int} (o : ObjAt w B [.int .i64 x, .int .i64 y, .int .i64 z]) (hp : B ≠ p) (a b d : Int) : RdX p r (((w.setCell ⟨B, 0, none⟩ (.int .i64 a)).setCell ⟨B, 1, none⟩ (.int .i64 b)).setCell ⟨B, 2, none⟩ (.int .i64 d)) :=
  ((h.other o (no_byte x y z) hp 0 _).other (o.set 0 _) (no_byte a y z) hp 1 _).other ((o.set 0 _).set 1 _) (no_byte a b z) hp 2 _

theorem RdIn.set3 {F : Nat → Prop} {p : Nat} {l : List Int} {w : World} (h : RdIn F p l w) {B : Nat} (hp : B ≠ p) (hF : ¬ F B) (a b d : Value) : RdIn F p l (((w.setCell ⟨B, 0, none⟩ a).setCell ⟨B, 1, none⟩ b).setCell ⟨B, 2, none⟩ d) :=
  ((h.other (x := ⟨B, 0, none⟩) hp hF a).other (x := ⟨B, 1, none⟩) hp hF b).other (x := ⟨B, 2, none⟩) hp hF d

end Go.Proofs.YtkakcdojbgnocaaDoor
