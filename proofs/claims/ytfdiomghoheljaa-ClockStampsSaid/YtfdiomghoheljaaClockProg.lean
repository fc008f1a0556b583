/- The program's own contracts of layer 19: a nil clock; a stamp packed, and read. -/
import Derived.Test.YtfdiomghoheljaaClockStepP
import Derived.Test.YtfdiomghoheljaaReadX
import Derived.Test.YtfdiomghoheljaaReadIn
namespace Go.Proofs.Ytfdiomghoheljaa
open Go.RowKit
set_option linter.unusedVariables false

theorem kNilTick (ms : Int) (w : World) : Calls Try.prog 13 #[.pointer none, .int .i64 ms] w fun e w' => e = .returned (.int .i64 17) ∧ Below w.heap.size w w' := by
  go_enter Try.func13, Try.ntmps13
  go_wp2
  go_ret
  exact ⟨rfl, Below.refl _ _⟩

theorem kNilWall (w : World) : Calls Try.prog 11 #[.pointer none] w fun e w' => e = .returned (.int .i64 0) ∧ Below w.heap.size w w' := by
  go_enter Try.func11, Try.ntmps11
  go_wp2
  go_ret
  exact ⟨rfl, Below.refl _ _⟩

theorem kNilLast (w : World) : Calls Try.prog 12 #[.pointer none] w fun e w' => e = .returned (valT ⟨0, 0, 0⟩) ∧ Below w.heap.size w w' := by
  have b1 := below_alloc w (.cells #[.int .i64 0, .int .i64 0, .int .i64 0] 29)
  have o9 := ObjAt.new w #[.int .i64 0, .int .i64 0, .int .i64 0] 29
  go_enter Try.func12, Try.ntmps12
  go_wp2
  have s0 := o9.cell 0 rfl; have s1 := o9.cell 1 rfl; have s2 := o9.cell 2 rfl
  exact bodyPost_ret (v := .agg #[.int .i64 0, .int .i64 0, .int .i64 0]) (by simp [results, Try.results12, go_sem, s0, s1, s2]) rfl ⟨rfl, b1⟩

theorem kNilPeek (w : World) : Calls Try.prog 31 #[.pointer none] w fun e w' => e = .returned (.tuple #[valT ⟨0, 0, 0⟩, .int .i64 17]) ∧ Below w.heap.size w w' := by
  have b1 := below_alloc w (.cells #[.int .i64 0, .int .i64 0, .int .i64 0] 29)
  have o9 := ObjAt.new w #[.int .i64 0, .int .i64 0, .int .i64 0] 29
  go_enter Try.func31, Try.ntmps31
  go_wp2
  have s0 := o9.cell 0 rfl; have s1 := o9.cell 1 rfl; have s2 := o9.cell 2 rfl
  exact bodyPost_ret (v := .tuple #[.agg #[.int .i64 0, .int .i64 0, .int .i64 0], .int .i64 17]) (by simp [results, Try.results31, go_sem, s0, s1, s2]) rfl ⟨rfl, b1⟩

theorem nextNil (x y t er : Int) (he : (er == 0) = false) (HP : ∀ v : World, Calls Try.prog 31 #[.pointer none] v fun e w' => e = .returned (.tuple #[.agg #[.int .i64 x, .int .i64 y, .int .i64 t], .int .i64 er]) ∧ Below v.heap.size v w') (w : World) :
    Calls Try.prog 14 #[.pointer none] w fun e w' => e = .returned (.tuple #[.agg #[.int .i64 x, .int .i64 y, .int .i64 t], .int .i64 er]) ∧ Below w.heap.size w w' := by
  have b0 := below_alloc w (.cells #[.int .i64 0, .int .i64 0, .int .i64 0] 29)
  have z := ObjAt.new w #[.int .i64 0, .int .i64 0, .int .i64 0] 29
  have zl := z.lt
  go_enter Try.func14, Try.ntmps14
  go_wp2_with (go_at_call 31; (with_reducible refine (HP _).mono ?_); rintro e w1 ⟨rfl, hx⟩; have b4 := below_alloc w1 (.cells #[.int .i64 x, .int .i64 y, .int .i64 t] 29); have o4 := ObjAt.new w1 #[.int .i64 x, .int .i64 y, .int .i64 t] 29; have hx := hx.trans (b4.mono hx.size); have z3 := z.below hx zl; have hb := b0.trans (hx.mono b0.size); generalize hv4 : w1.alloc (.cells #[.int .i64 x, .int .i64 y, .int .i64 t] 29) = v4 at *; have x0 := o4.cell 0 rfl; have x1 := o4.cell 1 rfl; have x2 := o4.cell 2 rfl; have z0 := z3.cell 0 rfl; have z1 := z3.cell 1 rfl; have z2 := z3.cell 2 rfl; have g0 := z3.free 0; have g1 := z3.free 1; have g2 := z3.free 2)
  have o9 := set3 z3 (.int .i64 x) (.int .i64 y) (.int .i64 t)
  have r0 := o9.cell 0 rfl; have r1 := o9.cell 1 rfl; have r2 := o9.cell 2 rfl
  exact bodyPost_ret (v := .tuple #[.agg #[.int .i64 x, .int .i64 y, .int .i64 t], .int .i64 er]) (by simp [results, Try.results14, go_sem, r0, r1, r2]) rfl ⟨rfl, set3_below hb (Nat.le_refl _) _ _ _⟩
theorem kNilNext (w : World) : Calls Try.prog 14 #[.pointer none] w fun e w' => e = .returned (.tuple #[valT ⟨0, 0, 0⟩, .int .i64 17]) ∧ Below w.heap.size w w' :=
  nextNil 0 0 0 17 (by decide) (fun v => kNilPeek v) w

theorem kNilRestore (s : StampN) (w : World) (hs : FitT s) : Calls Try.prog 17 #[.pointer none, valT s] w fun e w' => e = .returned (.int .i64 17) ∧ Below w.heap.size w w' := by
  unfold valT
  have b0 := below_alloc w (.cells #[.int .i64 s.wall, .int .i64 s.count, .int .i64 s.dev] 29)
  go_enter Try.func17, Try.ntmps17
  go_wp2
  go_ret
  exact ⟨rfl, b0⟩

theorem kNilHear (s : StampN) (w : World) (hs : FitT s) : Calls Try.prog 16 #[.pointer none, valT s] w fun e w' => e = .returned (.int .i64 17) ∧ Below w.heap.size w w' := by
  have HR := fun v => kNilRestore s v hs
  obtain ⟨x, y, t⟩ := s
  unfold valT at *
  dsimp only at HR ⊢
  have b0 := below_alloc w (.cells #[.int .i64 x, .int .i64 y, .int .i64 t] 29)
  have z := ObjAt.new w #[.int .i64 x, .int .i64 y, .int .i64 t] 29
  generalize hv1 : w.alloc (.cells #[.int .i64 x, .int .i64 y, .int .i64 t] 29) = v1 at *
  have z0 := z.cell 0 rfl; have z1 := z.cell 1 rfl; have z2 := z.cell 2 rfl
  go_enter Try.func16, Try.ntmps16
  go_wp2_with fail
  go_quiet (fail)
  refine any_some (fun wd => ObjAt wd w.heap.size [.int .i64 x, .int .i64 y, .int .i64 t] ∧ Below w.heap.size w wd) ⟨z.drewN _, below_drewn b0 _⟩ ?_
  clear z b0 z0 z1 z2 hv1
  rintro wd ⟨z, hb⟩
  have z0 := z.cell 0 rfl; have z1 := z.cell 1 rfl; have z2 := z.cell 2 rfl
  go_wp2_with (go_at_call 17; (with_reducible refine (HR _).mono ?_); rintro e w1 ⟨rfl, hx⟩)
  go_ret
  exact ⟨rfl, hb.trans (hx.mono hb.size)⟩

/-! Stamps packed, and read. -/
theorem kPutNo (base q : Nat) (a : Option Addr) (l : List Int) (s : StampN) (w : World) (hw : Wr 5 base q a l w) (hs : FitT s) (h : ¬ rightT s = true) :
    Calls Try.prog 18 #[.pointer (some ⟨q, 0, none⟩), valT s] w fun e w' => e = .returned (.tuple #[]) ∧ Below w.heap.size w w' := by
  have HR := fun v => kRightC s v hs
  rw [Bool.not_eq_true] at h
  rw [h] at HR
  obtain ⟨x, y, t⟩ := s
  unfold valT at *
  dsimp only at HR ⊢
  have b0 := below_alloc w (.cells #[.int .i64 x, .int .i64 y, .int .i64 t] 29)
  have z := ObjAt.new w #[.int .i64 x, .int .i64 y, .int .i64 t] 29
  have z0 := z.cell 0 rfl; have z1 := z.cell 1 rfl; have z2 := z.cell 2 rfl
  go_enter Try.func18, Try.ntmps18
  go_wp2_with (go_at_call 21; (with_reducible refine (HR _).mono ?_); rintro e w1 ⟨rfl, hx⟩)
  refine bodyPost_ret (results_none rfl _ _ _) rfl ?_
  exact ⟨rfl, b0.trans (hx.mono b0.size)⟩

set_option maxHeartbeats 2000000 in
set_option maxRecDepth 100000 in
theorem kPutYes (base q : Nat) (a : Option Addr) (l : List Int) (s : StampN) (w : World) (hw : Wr 5 base q a l w) (hlen : l.length ≤ 1000000) (hbase : base ≤ w.heap.size) (h : rightT s = true) :
    Calls Try.prog 18 #[.pointer (some ⟨q, 0, none⟩), valT s] w (PutGives base q a (l ++ bytesT s) w) := by
  have HR := fun v => kRightC s v (right_fit h)
  rw [h] at HR
  obtain ⟨d0, d1, e0, e1, s0, s1⟩ := rightT_iff.1 h
  obtain ⟨x, y, t⟩ := s
  unfold valT bytesT at *
  dsimp only at HR d0 d1 e0 e1 s0 s1 ⊢
  clear h
  obtain ⟨D, rfl⟩ := Int.eq_ofNat_of_zero_le d0
  obtain ⟨I, rfl⟩ := Int.eq_ofNat_of_zero_le e0
  obtain ⟨S, rfl⟩ := Int.eq_ofNat_of_zero_le s0
  have o1 := ObjAt.new w #[.int .i64 (D : Int), .int .i64 (I : Int), .int .i64 (S : Int)] 29
  have b1 := below_alloc w (.cells #[.int .i64 (D : Int), .int .i64 (I : Int), .int .i64 (S : Int)] 29)
  have hlt1 := o1.lt
  have u0 := o1.cell 0 rfl; have u1 := o1.cell 1 rfl; have u2 := o1.cell 2 rfl
  rw [Int.toNat_natCast, Int.toNat_natCast, Int.toNat_natCast, ← List.append_assoc, ← List.append_assoc]
  have t1 := short_ten D (by omega)
  have t2 := short_ten I (by omega)
  have q1 : IntKind.u64.wrap (D : Int) = (D : Int) := by rw [IntKind.wrap_u64]; omega
  have q2 : IntKind.u64.wrap (I : Int) = (I : Int) := by rw [IntKind.wrap_u64]; omega
  have q3 : IntKind.u64.wrap (S : Int) = (S : Int) := by rw [IntKind.wrap_u64]; omega
  have H1 := fun w hw hb => wNumC base q D a l w hw (by omega) hb (by omega)
  have H2 := fun a w hw hb => wNumC base q I a (l ++ short D) w hw (by rw [List.length_append]; omega) hb (by omega)
  have H3 := fun a w hw hb => wNumC base q S a (l ++ short D ++ short I) w hw (by rw [List.length_append, List.length_append]; omega) hb (by omega)
  generalize l ++ short D = l1 at *
  generalize l1 ++ short I = l2 at *
  generalize l2 ++ short S = l3 at *
  clear d0 d1 e0 e1 s0 s1 t1 t2 hlen
  have hpw := hw.lt.2
  have har := fun k h => (hw.at' k h).2.1
  have hw1 := hw.below b1
  go_enter Try.func18, Try.ntmps18
  go_wp2_with (go_at_call 21; (with_reducible refine (HR _).mono ?_); rintro e w2 ⟨rfl, hx2⟩; have o2 := o1.below hx2 hlt1; have hw2 := hw1.below hx2; have b2 := b1.trans (hx2.mono b1.size); have s2 := Nat.lt_of_lt_of_le hlt1 hx2.size; clear hx2)
  have bd : Below w2.heap.size w2 w2.drew := (Below.refl _ w2).drew
  have od := o2.below bd s2
  have hwd := hw2.below bd
  have b2d := b2.trans (bd.mono b2.size)
  have sd : w.heap.size < w2.drew.heap.size := Nat.lt_of_lt_of_le s2 bd.size
  go_region_held3 (fun w' => w'.cell? ⟨w.heap.size, 0, none⟩ = some (.int .i64 (D : Int)) ∧ w'.cell? ⟨w.heap.size, 1, none⟩ = some (.int .i64 (I : Int)) ∧ w'.cell? ⟨w.heap.size, 2, none⟩ = some (.int .i64 (S : Int)))
    (first | exact ⟨o5.cell 0 rfl, o5.cell 1 rfl, o5.cell 2 rfl⟩ | exact ⟨o4.cell 0 rfl, o4.cell 1 rfl, o4.cell 2 rfl⟩ | exact ⟨o3.cell 0 rfl, o3.cell 1 rfl, o3.cell 2 rfl⟩ | exact ⟨od.cell 0 rfl, od.cell 1 rfl, od.cell 2 rfl⟩)
    (first
      | (go_at_call 38; (with_reducible refine (H1 _ hwd (Nat.le_trans hbase b2d.size)).mono ?_); rintro e w3 ⟨rfl, a3, hw3, k3, n3⟩; have o3 := od.keeps (Keeps.ofKept k3) (fun h => h.elim (fun e => by omega) (fun h => by have := har _ h; omega)); have K3 := (Kept.of b2d (p := q) (a := a)).trans (Near.refl _ _) k3; have N3 := n3.early b2d.size; have ap3 : ¬ At a3 w.heap.size := (apart_iff.1 (n3 _ sd (apart_iff.2 (fun h => by have := har _ h; omega)))); have sd3 := Nat.lt_of_lt_of_le sd k3.size; have hb3 := Nat.le_trans hbase K3.size)
      | (go_at_call 38; (with_reducible refine (H2 _ _ hw3 hb3).mono ?_); rintro e w4 ⟨rfl, a4, hw4, k4, n4⟩; have o4 := o3.keeps (Keeps.ofKept k4) (fun h => h.elim (fun e => by omega) ap3); have K4 := K3.trans N3 k4; have N4 := N3.trans n4 K3.size; have ap4 : ¬ At a4 w.heap.size := (apart_iff.1 (n4 _ sd3 (apart_iff.2 ap3))); have hb4 := Nat.le_trans hbase K4.size)
      | (go_at_call 38; (with_reducible refine (H3 _ _ hw4 hb4).mono ?_); rintro e w5 ⟨rfl, a5, hw5, k5, n5⟩; have o5 := o4.keeps (Keeps.ofKept k5) (fun h => h.elim (fun e => by omega) ap4); have K5 := K4.trans N4 k5; have N5 := N4.trans n5 K4.size))
  all_goals (
    go_wp2
    go_end0
    exact ⟨rfl, a5, hw5, K5, N5⟩)

theorem Kept.set3 {p B : Nat} {w v : World} (h : Kept p none w v) (hB : w.heap.size ≤ B) (a b d : Value) : Kept p none w (((v.setCell ⟨B, 0, none⟩ a).setCell ⟨B, 1, none⟩ b).setCell ⟨B, 2, none⟩ d) :=
  ⟨h.os, h.tape, h.output, by simpa using h.size, fun k hk h1 h2 => by
    have e : k ≠ B := by omega
    rw [Below.heap_setCell _ _ _ _ e, Below.heap_setCell _ _ _ _ e, Below.heap_setCell _ _ _ _ e]
    exact h.block k hk h1 h2⟩
theorem ObjAt.mem {w : World} {b : Nat} {vs : List Value} (h : ObjAt w b vs) {i : Nat} {v : Value} (hc : w.cell? ⟨b, i, none⟩ = some v) : v ∈ vs := by
  obtain ⟨e, h⟩ := h.heap
  have : vs[i]? = some v := by simpa [World.cell?, h] using hc
  exact List.mem_of_getElem? this
/-- A cell of a block without bytes in it is written. -/
theorem RdX.other {p : Nat} {r : RdN} {w : World} (h : RdX p r w) {b : Nat} {vs : List Value} (o : ObjAt w b vs) (hv : ∀ n, Value.int .u8 n ∉ vs) (hp : b ≠ p) (i : Nat) (v : Value) : RdX p r (w.setCell ⟨b, i, none⟩ v) := by
  obtain ⟨a, n, c, h1, h2, h3, h4, h4', h5, h6, h7, h8, h9, h10⟩ := h
  refine ⟨a, n, c, by simpa using h1, ?_, ?_, by rw [World.frozen?_setCell]; exact h4, by rw [World.frozen?_setCell]; exact h4', ?_, h6, h7, h8, h9, h10⟩
  · rw [World.cell?_setCell_other _ _ _ _ (fun h => hp (congrArg Addr.block h))]; exact h2
  · rw [World.cell?_setCell_other _ _ _ _ (fun h => hp (congrArg Addr.block h))]; exact h3
  · intro j u hu
    obtain ⟨b', off, hb, hcell⟩ := h5 j u hu
    refine ⟨b', off, hb, ?_⟩
    have hne : b ≠ b' := by
      rintro rfl
      have hm := o.mem hcell
      rw [List.getElem?_map] at hu
      obtain ⟨x, -, rfl⟩ := Option.map_eq_some_iff.1 hu
      exact hv _ hm
    rw [World.cell?_setCell_other _ _ _ _ (fun h => hne (congrArg Addr.block h))]
    exact hcell
theorem no_byte (a b c : Int) (n : Int) : Value.int .u8 n ∉ [Value.int .i64 a, Value.int .i64 b, Value.int .i64 c] := by simp
theorem RdX.set3 {p : Nat} {r : RdN} {w : World} (h : RdX p r w) {B : Nat} {x y z : Int} (o : ObjAt w B [.int .i64 x, .int .i64 y, .int .i64 z]) (hp : B ≠ p) (a b d : Int) : RdX p r (((w.setCell ⟨B, 0, none⟩ (.int .i64 a)).setCell ⟨B, 1, none⟩ (.int .i64 b)).setCell ⟨B, 2, none⟩ (.int .i64 d)) :=
  ((h.other o (no_byte x y z) hp 0 _).other (o.set 0 _) (no_byte a y z) hp 1 _).other ((o.set 0 _).set 1 _) (no_byte a b z) hp 2 _

set_option maxHeartbeats 2000000 in
set_option maxRecDepth 100000 in
theorem kGetAny (p : Nat) (l : List Int) (e : Int) (w : World) (hr : RdX p (l, e) w) (hb : IsBytes l) (hn : l.length ≤ 1000000) :
    Calls Try.prog 24 #[.pointer (some ⟨p, 0, none⟩)] w (RdxGives p (valT (stampR (l, e)).2) (stampR (l, e)).1 w) := by
  have hx1 := numR_bytes (r := (l, e)) (most := 4398046511104) hb
  have hr1 := numR_range (r := (l, e)) (most := 4398046511104) hb (by decide)
  have H1 := fun w h => xNumC p l e 4398046511104 w h hb (by decide)
  unfold stampR
  generalize numR (l, e) 4398046511104 = R1 at *
  obtain ⟨⟨l1, e1⟩, n1⟩ := R1
  simp only at hx1 hr1 H1 ⊢
  have hx2 := numR_bytes (r := (l1, e1)) (most := 65535) hx1
  have hr2 := numR_range (r := (l1, e1)) (most := 65535) hx1 (by decide)
  have H2 := fun w h => xNumC p l1 e1 65535 w h hx1 (by decide)
  generalize numR (l1, e1) 65535 = R2 at *
  obtain ⟨⟨l2, e2⟩, n2⟩ := R2
  simp only at hx2 hr2 H2 ⊢
  have hr3 := numR_range (r := (l2, e2)) (most := 63) hx2 (by decide)
  have H3 := fun w h => xNumC p l2 e2 63 w h hx2 (by decide)
  generalize numR (l2, e2) 63 = R3 at *
  obtain ⟨⟨l3, e3⟩, n3⟩ := R3
  simp only at hr3 H3 ⊢
  have HE := fun w h => xErrC p (l3, e3) w h
  unfold RdxGives at H1 H2 H3
  dsimp only at HE
  have w1' : IntKind.i64.wrap n1 = n1 := by rw [IntKind.wrap_i64]; omega
  have w2' : IntKind.i64.wrap n2 = n2 := by rw [IntKind.wrap_i64]; omega
  have w3' : IntKind.i64.wrap n3 = n3 := by rw [IntKind.wrap_i64]; omega
  clear hx1 hx2 hr1 hr2 hr3 hb hn
  have hpw := hr.lt
  have z0 := ObjAt.new w #[.int .i64 0, .int .i64 0, .int .i64 0] 29
  have b0 := below_alloc w (.cells #[.int .i64 0, .int .i64 0, .int .i64 0] 29)
  have zl := z0.lt
  have hr0 := hr.below b0
  have hne : w.heap.size ≠ p := by omega
  have hs : w.heap.size ≤ w.heap.size := Nat.le_refl _
  unfold valT
  by_cases q : e3 = 0
  · obtain rfl : e3 = 0 := q
    rw [if_neg (by simp)]
    dsimp only
    go_enter Try.func24, Try.ntmps24
    go_wp2_with (first
      | (go_at_call 42; (with_reducible refine (H1 _ hr0).mono ?_); rintro e w1 ⟨rfl, hr1, k1⟩; have z1 := z0.keeps (Keeps.ofKept k1) (fun h => h.elim (fun e => by omega) (fun h => at_none _ h)); have K1 := (Kept.of b0 (p := p) (a := none)).trans (Near.refl _ _) k1)
      | (go_at_call 42; (with_reducible refine (H2 _ hr1).mono ?_); rintro e w2 ⟨rfl, hr2, k2⟩; have z2 := z1.keeps (Keeps.ofKept k2) (fun h => h.elim (fun e => by omega) (fun h => at_none _ h)); have K2 := K1.trans (Near.refl _ _) k2)
      | (go_at_call 42; (with_reducible refine (H3 _ hr2).mono ?_); rintro e w3 ⟨rfl, hr3, k3⟩; have z3 := z2.keeps (Keeps.ofKept k3) (fun h => h.elim (fun e => by omega) (fun h => at_none _ h)); have K3 := K2.trans (Near.refl _ _) k3)
      | (go_at_call 29; (with_reducible refine (HE _ hr3).mono ?_); rintro e w4 ⟨rfl, rfl⟩; have g0 := z3.free 0; have g1 := z3.free 1; have g2 := z3.free 2; have y0 := z3.cell 0 rfl; have y1 := z3.cell 1 rfl; have y2 := z3.cell 2 rfl))
    have o9 := set3 z3 (.int .i64 n1) (.int .i64 n2) (.int .i64 n3)
    have r0 := o9.cell 0 rfl; have r1 := o9.cell 1 rfl; have r2 := o9.cell 2 rfl
    have K5 := K3.set3 hs (.int .i64 n1) (.int .i64 n2) (.int .i64 n3)
    refine bodyPost_ret (v := .agg #[.int .i64 n1, .int .i64 n2, .int .i64 n3]) (by simp [results, Try.results24, go_sem, r0, r1, r2]) rfl ⟨rfl, ?_, K5⟩
    exact hr3.set3 z3 hne _ _ _
  · rw [if_pos q]
    have q2 : (e3 != 0) = true := bne_iff_ne.2 q
    dsimp only
    clear q
    go_enter Try.func24, Try.ntmps24
    go_wp2_with (first
      | (go_at_call 42; (with_reducible refine (H1 _ hr0).mono ?_); rintro e w1 ⟨rfl, hr1, k1⟩; have z1 := z0.keeps (Keeps.ofKept k1) (fun h => h.elim (fun e => by omega) (fun h => at_none _ h)); have K1 := (Kept.of b0 (p := p) (a := none)).trans (Near.refl _ _) k1)
      | (go_at_call 42; (with_reducible refine (H2 _ hr1).mono ?_); rintro e w2 ⟨rfl, hr2, k2⟩; have z2 := z1.keeps (Keeps.ofKept k2) (fun h => h.elim (fun e => by omega) (fun h => at_none _ h)); have K2 := K1.trans (Near.refl _ _) k2)
      | (go_at_call 42; (with_reducible refine (H3 _ hr2).mono ?_); rintro e w3 ⟨rfl, hr3, k3⟩; have z3 := z2.keeps (Keeps.ofKept k3) (fun h => h.elim (fun e => by omega) (fun h => at_none _ h)); have K3 := K2.trans (Near.refl _ _) k3)
      | (go_at_call 29; (with_reducible refine (HE _ hr3).mono ?_); rintro e w4 ⟨rfl, rfl⟩; have g0 := z3.free 0; have g1 := z3.free 1; have g2 := z3.free 2; have y0 := z3.cell 0 rfl; have y1 := z3.cell 1 rfl; have y2 := z3.cell 2 rfl))
    have o9 := set3 z3 (.int .i64 0) (.int .i64 0) (.int .i64 0)
    have r0 := o9.cell 0 rfl; have r1 := o9.cell 1 rfl; have r2 := o9.cell 2 rfl
    have K5 := K3.set3 hs (.int .i64 0) (.int .i64 0) (.int .i64 0)
    refine bodyPost_ret (v := .agg #[.int .i64 0, .int .i64 0, .int .i64 0]) (by simp [results, Try.results24, go_sem, r0, r1, r2]) rfl ⟨rfl, ?_, K5⟩
    exact hr3.set3 z3 hne _ _ _

theorem RdIn.set3 {F : Nat → Prop} {p : Nat} {l : List Int} {w : World} (h : RdIn F p l w) {B : Nat} (hp : B ≠ p) (hF : ¬ F B) (a b d : Value) : RdIn F p l (((w.setCell ⟨B, 0, none⟩ a).setCell ⟨B, 1, none⟩ b).setCell ⟨B, 2, none⟩ d) :=
  ((h.other (x := ⟨B, 0, none⟩) hp hF a).other (x := ⟨B, 1, none⟩) hp hF b).other (x := ⟨B, 2, none⟩) hp hF d

set_option maxHeartbeats 2000000 in
set_option maxRecDepth 100000 in
theorem clockGetIn (F : Nat → Prop) (p : Nat) (s : StampN) (r l : List Int) (w : World) (hr : RdIn F p l w) (hF : ∀ k, F k → k < w.heap.size) (hl : bytesT s ++ r = l) (hb : IsBytes l) (h : rightT s = true) :
    Calls Try.prog 24 #[.pointer (some ⟨p, 0, none⟩)] w (RdInGives F p (valT s) r w) := by
  obtain ⟨d0, d1, e0, e1, s0, s1⟩ := rightT_iff.1 h
  obtain ⟨x, y, t⟩ := s
  unfold valT
  unfold bytesT at hl
  dsimp only at d0 d1 e0 e1 s0 s1 hl ⊢
  obtain ⟨D, rfl⟩ := Int.eq_ofNat_of_zero_le d0
  obtain ⟨I, rfl⟩ := Int.eq_ofNat_of_zero_le e0
  obtain ⟨S, rfl⟩ := Int.eq_ofNat_of_zero_le s0
  rw [Int.toNat_natCast, Int.toNat_natCast, Int.toNat_natCast, List.append_assoc, List.append_assoc] at hl
  have hb1 : IsBytes (short I ++ (short S ++ r)) := fun y hy => hb y (hl ▸ List.mem_append_right _ hy)
  have hb2 : IsBytes (short S ++ r) := fun y hy => hb1 y (List.mem_append_right _ hy)
  have q1 : IntKind.i64.wrap (D : Int) = (D : Int) := by rw [IntKind.wrap_i64]; omega
  have q2 : IntKind.i64.wrap (I : Int) = (I : Int) := by rw [IntKind.wrap_i64]; omega
  have q3 : IntKind.i64.wrap (S : Int) = (S : Int) := by rw [IntKind.wrap_i64]; omega
  have H1 := fun w hr => rNumIn F p D _ l 4398046511104 w hr hl hb (by omega) (by omega)
  have H2 := fun w hr => rNumIn F p I _ _ 65535 w hr rfl hb1 (by omega) (by omega)
  have H3 := fun w hr => rNumIn F p S r _ 63 w hr rfl hb2 (by omega) (by omega)
  have HE := fun w (hr : RdIn F p r w) => rErrC p r w hr.rd
  generalize short S ++ r = l2 at *
  generalize short I ++ l2 = l1 at *
  clear hl hb hb1 hb2 d0 d1 e0 e1 s0 s1 h
  have hpw := hr.lt
  have z0 := ObjAt.new w #[.int .i64 0, .int .i64 0, .int .i64 0] 29
  have b0 := below_alloc w (.cells #[.int .i64 0, .int .i64 0, .int .i64 0] 29)
  have zl := z0.lt
  have hr0 := hr.below b0
  have hne : w.heap.size ≠ p := by omega
  have hs : w.heap.size ≤ w.heap.size := Nat.le_refl _
  have hnF : ¬ F w.heap.size := fun h => absurd (hF _ h) (Nat.lt_irrefl _)
  go_enter Try.func24, Try.ntmps24
  go_wp2_with (first
    | (go_at_call 42; (with_reducible refine (H1 _ hr0).mono ?_); rintro e w1 ⟨rfl, hr1, k1⟩; have z1 := z0.keeps (Keeps.ofKept k1) (fun h => h.elim (fun e => by omega) (fun h => at_none _ h)); have K1 := (Kept.of b0 (p := p) (a := none)).trans (Near.refl _ _) k1)
    | (go_at_call 42; (with_reducible refine (H2 _ hr1).mono ?_); rintro e w2 ⟨rfl, hr2, k2⟩; have z2 := z1.keeps (Keeps.ofKept k2) (fun h => h.elim (fun e => by omega) (fun h => at_none _ h)); have K2 := K1.trans (Near.refl _ _) k2)
    | (go_at_call 42; (with_reducible refine (H3 _ hr2).mono ?_); rintro e w3 ⟨rfl, hr3, k3⟩; have z3 := z2.keeps (Keeps.ofKept k3) (fun h => h.elim (fun e => by omega) (fun h => at_none _ h)); have K3 := K2.trans (Near.refl _ _) k3)
    | (go_at_call 29; (with_reducible refine (HE _ hr3).mono ?_); rintro e w4 ⟨rfl, rfl⟩; have g0 := z3.free 0; have g1 := z3.free 1; have g2 := z3.free 2; have y0 := z3.cell 0 rfl; have y1 := z3.cell 1 rfl; have y2 := z3.cell 2 rfl))
  have o9 := set3 z3 (.int .i64 (D : Int)) (.int .i64 (I : Int)) (.int .i64 (S : Int))
  have r0 := o9.cell 0 rfl; have r1 := o9.cell 1 rfl; have r2 := o9.cell 2 rfl
  have K5 := K3.set3 hs (.int .i64 (D : Int)) (.int .i64 (I : Int)) (.int .i64 (S : Int))
  refine bodyPost_ret (v := .agg #[.int .i64 (D : Int), .int .i64 (I : Int), .int .i64 (S : Int)]) (by simp [results, Try.results24, go_sem, r0, r1, r2]) rfl ⟨rfl, ?_, K5⟩
  exact hr3.set3 hne hnF _ _ _

theorem kGetYes (p : Nat) (s : StampN) (r l : List Int) (w : World) (hr : Rd p l w) (hl : bytesT s ++ r = l) (hb : IsBytes l) (h : rightT s = true) :
    Calls Try.prog 24 #[.pointer (some ⟨p, 0, none⟩)] w (RdGives p (valT s) r w) :=
  (clockGetIn _ p s r l w hr.inside (fun _ h => h) hl hb h).mono fun _ _ h => h.rd
end Go.Proofs.Ytfdiomghoheljaa
