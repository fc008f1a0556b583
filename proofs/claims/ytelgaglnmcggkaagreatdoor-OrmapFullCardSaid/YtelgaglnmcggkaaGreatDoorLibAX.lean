/- Contracts and plain words that the laws' proofs stand on, put together. -/
import Derived.Test.YtelgaglnmcggkaaGreatDoorOrRef12
import Derived.Test.YtelgaglnmcggkaaGreatDoorLibAP
import Derived.Test.YtelgaglnmcggkaaGreatDoorEventRef
import Derived.Test.YtelgaglnmcggkaaGreatDoorLibAO
import Derived.Test.YtelgaglnmcggkaaGreatDoorLibAJ
import Derived.Test.YtelgaglnmcggkaaGreatDoorLibAH
import Derived.Test.YtelgaglnmcggkaaGreatDoorClockUp
import Derived.Test.YtelgaglnmcggkaaGreatDoorLibAW
import Derived.Test.YtelgaglnmcggkaaGreatDoorLibAA
import Derived.Lib.LazyBuf
import Derived.BigQuiet
import Derived.Deep.RegionHeld3
/- Contracts of the reference of layer 21: an event applied; the map of events. -/
namespace Go.Proofs.YtelgaglnmcggkaaGreatDoor
open Go.RowKit
set_option linter.unusedVariables false
set_option linter.unusedSimpArgs false

/-- A row's elements do not lie in a block of other things. -/
theorem row_obj {α : Type} {enc : α → List Value} {z : Nat} (h0 : ∀ x, ∃ n, (enc x)[0]? = some (.int .i64 n)) {w w' : World} {a : Option Addr} {n c : Nat} {P : List α} (h : RowOf enc z w a n c P) {b : Nat} {vs : List Value} (o : ObjAt w b vs) (hv : ∀ v ∈ vs, ∀ n, v ≠ .int .i64 n) (hk : Keeps (fun k => k = b) w w') : RowOf enc z w' a n c P := by
  refine ⟨h.leq, h.cle, h.capm, h.nil0, fun i x hx => ?_⟩
  obtain ⟨g, off, e, hc⟩ := h.at_ i x hx
  refine ⟨g, off, e, fun j v hj => hk.cell (hc j v hj) ?_⟩
  show ¬ g = b
  rintro rfl
  obtain ⟨n0, h1⟩ := h0 x
  have h2 := hc 0 _ h1
  rw [Nat.add_zero] at h2
  obtain ⟨e2, he⟩ := o.heap
  cases hq : vs[off + i * z]? with
  | none => simp [World.cell?, he, hq] at h2
  | some u =>
    have h3 := o.cell (off + i * z) hq
    rw [h3] at h2
    exact hv u (List.mem_of_getElem? hq) n0 (Option.some.inj h2)
theorem encD_int (x : DotN) : ∃ n, (encD x)[0]? = some (.int .i64 n) := ⟨_, rfl⟩
theorem encE_int (x : EvR) : ∃ n, (encE x)[0]? = some (.int .i64 n) := ⟨_, rfl⟩
theorem RowM.obj {w w' : World} {ac ak ad : Option Addr} {nc cc nk ck nd cd : Nat} {m : MapR} (h : RowM w ac nc cc ak nk ck ad nd cd m) {b : Nat} {vs : List Value} (o : ObjAt w b vs) (hv : ∀ v ∈ vs, ∀ n, v ≠ .int .i64 n) (hk : Keeps (fun k => k = b) w w') : RowM w' ac nc cc ak nk ck ad nd cd m :=
  ⟨row_obj encD_int h.ctx o hv hk, row_obj encE_int h.kept o hv hk, row_obj encD_int h.dead o hv hk⟩

/-- A map of few events. -/
structure FewM (m : MapR) (k : Nat) : Prop where
  ok : OkV m.ctx
  ctx : m.ctx.length ≤ k
  kept : m.kept.length ≤ k
  dead : m.dead.length ≤ 100 * k
theorem two_filters {α : Type} (p q : α → Bool) (h : ∀ x, p x = true → q x = false) : ∀ l : List α, (l.filter p).length + (l.filter q).length ≤ l.length
  | [] => Nat.le_refl _
  | x :: t => by
    have ih := two_filters p q h t
    have hx := h x
    rw [List.filter_cons, List.filter_cons, List.length_cons]
    cases hp : p x <;> cases hq : q x <;> simp_all <;> omega
theorem set_few {l : List DotN} (h : OkV l) (x : DotN) : (setV l x).length ≤ l.length + 1 := by
  rw [set_is h.ord, List.length_append, List.length_cons]
  have := two_filters (fun y => aheadD y x) (fun y => aheadD x y) (fun y hy => by
    show aheadD x y = false
    have h1 : aheadD y x = true := hy
    rw [aheadD_iff] at h1
    rw [aheadD_no]
    omega) l
  omega
theorem insR_len (l : List EvR) (r : EvR) : (insR l r).length = l.length + 1 := by
  unfold insR
  rw [List.length_append, List.length_cons, List.length_take, List.length_drop]
  omega
theorem FewM.apply {m : MapR} {k : Nat} (h : FewM m k) (r : EvR) (ho : r.e.over.length ≤ 100) : FewM (applyR m r).1 (k + 1) := by
  have hw : FewM m (k + 1) := ⟨h.ok, Nat.le_succ_of_le h.ctx, Nat.le_succ_of_le h.kept, by have := h.dead; omega⟩
  unfold applyR
  split
  · exact hw
  rename_i hr
  split
  · exact hw
  split
  · exact hw
  split
  · exact hw
  have hr2 : rightD r.e.dot = true := by
    have h1 : rightE r.e = true := by simpa using hr
    unfold rightE headE at h1
    rw [Bool.and_eq_true, Bool.and_eq_true] at h1
    exact h1.1.1
  have h1 := set_few h.ok r.e.dot
  have h2 := sortD_len (m.dead ++ r.e.over)
  rw [List.length_append] at h2
  have h3 := h.dead; have h4 := h.ctx; have h5 := h.kept
  exact ⟨set_ok h.ok hr2, by dsimp only; omega, by dsimp only; rw [insR_len]; omega, by dsimp only; omega⟩

end Go.Proofs.YtelgaglnmcggkaaGreatDoor

/- The program's own contracts of layer 20: an event's item; which events may be. -/
namespace Go.Proofs.YtelgaglnmcggkaaGreatDoor
open Go.RowKit
set_option linter.unusedVariables false
set_option linter.unusedSimpArgs false

theorem dotLessG (x y : DotN) (w : World) :
    Calls Tryz.prog 122 #[.agg #[.int .i64 x.dev, .int .i64 x.inc, .int .i64 x.seq], .agg #[.int .i64 y.dev, .int .i64 y.inc, .int .i64 y.seq]] w fun e w' => e = .returned (.bool (lessD x y)) ∧ Below w.heap.size w w' := by
  obtain ⟨o1, o2, hb⟩ := objsE2 w #[.int .i64 x.dev, .int .i64 x.inc, .int .i64 x.seq] #[.int .i64 y.dev, .int .i64 y.inc, .int .i64 y.seq] 35 35
  have u0 := o1.cell 0 rfl; have u1 := o1.cell 1 rfl; have u2 := o1.cell 2 rfl
  have v0 := o2.cell 0 rfl; have v1 := o2.cell 1 rfl; have v2 := o2.cell 2 rfl
  have H1 := fun w => dotOrderG x y w
  have hneg := ord_neg x y
  generalize ordD x y = C at *
  rw [← hneg]
  clear hneg
  go_enter Tryz.func122, Tryz.ntmps122
  go_wp2_with (go_at_call 119; (with_reducible refine (H1 _).mono ?_); rintro e w1 ⟨rfl, hx⟩; have hb := hb.trans (hx.below.mono hb.size))
  go_ret
  exact ⟨rfl, hb⟩

theorem zero_less {x : DotN} (h : rightD x = true) : lessD ⟨0, 0, 0⟩ x = true := by
  obtain ⟨d0, d1, e0, e1, s0, s1⟩ := right_range h
  rw [lessD_iff]
  dsimp only
  omega

theorem same_like2 (x y : ItemL) : sameI x y = (sameKey x y && likeC x y) := by
  rw [Bool.eq_iff_iff, sameI_iff, sameKC_iff]
theorem eqItemO (x : ItemL) (w : World) :
    Sem.run Tryz.prog (Op.equalIn 10000 137 (.agg #[.string (str x.name), .string (str x.dom), .string (str x.path), .string (str x.val), .bool x.host, .bool x.sec, .bool x.http, .bool x.pers, .int .i64 x.exp, .int .i64 x.made, .int .i64 x.used]) (.agg #[.string ⟨#[]⟩, .string ⟨#[]⟩, .string ⟨#[]⟩, .string ⟨#[]⟩, .bool false, .bool false, .bool false, .bool false, .int .i64 0, .int .i64 0, .int .i64 0])) w = Result.ok (sameKey x ItemL.none && likeC x ItemL.none) w := by
  rw [← same_like2]
  exact eqItem2 x ItemL.none w

set_option maxHeartbeats 2000000 in
set_option maxRecDepth 100000 in
theorem itemE (e : EventN) (a : Option Addr) (n c : Nat) (w : World) :
    Calls Tryz.prog 131 #[.agg #[.int .i64 e.dot.dev, .int .i64 e.dot.inc, .int .i64 e.dot.seq, .int .i64 e.stamp.wall, .int .i64 e.stamp.count, .int .i64 e.stamp.dev, .int .i64 e.kind, .string (str e.item.name), .string (str e.item.dom), .string (str e.item.path), .string (str e.item.val), .bool e.item.host, .bool e.item.sec, .bool e.item.http, .bool e.item.pers, .int .i64 e.item.exp, .int .i64 e.item.made, .int .i64 e.item.used, .slice a n c]] w fun en w' => en = .returned (.agg #[.string (str e.item.name), .string (str e.item.dom), .string (str e.item.path), .string (str e.item.val), .bool e.item.host, .bool e.item.sec, .bool e.item.http, .bool e.item.pers, .int .i64 e.item.exp, .int .i64 e.item.made, .int .i64 e.item.used]) ∧ Below w.heap.size w w' := by
  have hb := below_alloc w (.cells #[.int .i64 e.dot.dev, .int .i64 e.dot.inc, .int .i64 e.dot.seq, .int .i64 e.stamp.wall, .int .i64 e.stamp.count, .int .i64 e.stamp.dev, .int .i64 e.kind, .string (str e.item.name), .string (str e.item.dom), .string (str e.item.path), .string (str e.item.val), .bool e.item.host, .bool e.item.sec, .bool e.item.http, .bool e.item.pers, .int .i64 e.item.exp, .int .i64 e.item.made, .int .i64 e.item.used, .slice a n c] 43)
  have o1 := ObjAt.new w #[.int .i64 e.dot.dev, .int .i64 e.dot.inc, .int .i64 e.dot.seq, .int .i64 e.stamp.wall, .int .i64 e.stamp.count, .int .i64 e.stamp.dev, .int .i64 e.kind, .string (str e.item.name), .string (str e.item.dom), .string (str e.item.path), .string (str e.item.val), .bool e.item.host, .bool e.item.sec, .bool e.item.http, .bool e.item.pers, .int .i64 e.item.exp, .int .i64 e.item.made, .int .i64 e.item.used, .slice a n c] 43
  generalize hv : w.alloc (.cells #[.int .i64 e.dot.dev, .int .i64 e.dot.inc, .int .i64 e.dot.seq, .int .i64 e.stamp.wall, .int .i64 e.stamp.count, .int .i64 e.stamp.dev, .int .i64 e.kind, .string (str e.item.name), .string (str e.item.dom), .string (str e.item.path), .string (str e.item.val), .bool e.item.host, .bool e.item.sec, .bool e.item.http, .bool e.item.pers, .int .i64 e.item.exp, .int .i64 e.item.made, .int .i64 e.item.used, .slice a n c] 43) = v at *
  have o2 := ObjAt.new v #[.string ⟨#[]⟩, .string ⟨#[]⟩, .string ⟨#[]⟩, .string ⟨#[]⟩, .bool false, .bool false, .bool false, .bool false, .int .i64 0, .int .i64 0, .int .i64 0] 137
  have b2 := below_alloc v (.cells #[.string ⟨#[]⟩, .string ⟨#[]⟩, .string ⟨#[]⟩, .string ⟨#[]⟩, .bool false, .bool false, .bool false, .bool false, .int .i64 0, .int .i64 0, .int .i64 0] 137)
  have o1 := o1.below b2 o1.lt
  have u7 := o1.cell 7 rfl; have u8 := o1.cell 8 rfl; have u9 := o1.cell 9 rfl; have u10 := o1.cell 10 rfl; have u11 := o1.cell 11 rfl; have u12 := o1.cell 12 rfl; have u13 := o1.cell 13 rfl; have u14 := o1.cell 14 rfl; have u15 := o1.cell 15 rfl; have u16 := o1.cell 16 rfl; have u17 := o1.cell 17 rfl
  have o3 := ObjAt.new v #[.string (str e.item.name), .string (str e.item.dom), .string (str e.item.path), .string (str e.item.val), .bool e.item.host, .bool e.item.sec, .bool e.item.http, .bool e.item.pers, .int .i64 e.item.exp, .int .i64 e.item.made, .int .i64 e.item.used] 137
  have b3 := hb.trans ((below_alloc v (.cells #[.string (str e.item.name), .string (str e.item.dom), .string (str e.item.path), .string (str e.item.val), .bool e.item.host, .bool e.item.sec, .bool e.item.http, .bool e.item.pers, .int .i64 e.item.exp, .int .i64 e.item.made, .int .i64 e.item.used] 137)).mono hb.size)
  go_enter Tryz.func131, Tryz.ntmps131
  go_wp2
  have r0 := o3.cell 0 rfl; have r1 := o3.cell 1 rfl; have r2 := o3.cell 2 rfl; have r3 := o3.cell 3 rfl; have r4 := o3.cell 4 rfl; have r5 := o3.cell 5 rfl; have r6 := o3.cell 6 rfl; have r7 := o3.cell 7 rfl; have r8 := o3.cell 8 rfl; have r9 := o3.cell 9 rfl; have r10 := o3.cell 10 rfl
  exact bodyPost_ret (v := .agg #[.string (str e.item.name), .string (str e.item.dom), .string (str e.item.path), .string (str e.item.val), .bool e.item.host, .bool e.item.sec, .bool e.item.http, .bool e.item.pers, .int .i64 e.item.exp, .int .i64 e.item.made, .int .i64 e.item.used]) (by simp [results, Tryz.results131, go_sem, r0, r1, r2, r3, r4, r5, r6, r7, r8, r9, r10]) rfl ⟨rfl, b3⟩
end Go.Proofs.YtelgaglnmcggkaaGreatDoor

/- The program's own contracts of layer 20: a clone; the same events. -/
namespace Go.Proofs.YtelgaglnmcggkaaGreatDoor
open Go.RowKit
set_option linter.unusedVariables false
set_option linter.unusedSimpArgs false

set_option maxRecDepth 100000 in
theorem dotCloneC (a : Option Addr) (n c : Nat) (L : List DotN) (w : World) (hL : RowOf encD 3 w a n c L) (hn : n ≤ 100000) :
    Calls Tryz.prog 132 #[.slice a n c] w (GivesZ encD 3 35 L n w) := by
  obtain ⟨i0, hi, hz0, hz1, hz2⟩ := info_parts infoDot
  have kn := fun (w : World) (a : Option Addr) (n c : Nat) => Go.run_eql_slice_nil (P := Tryz.prog) w 29 35 a n c Tryz.underlying29
  have hleq := hL.leq
  unfold GivesZ
  cases a with
  | none =>
    have hc0 : c = 0 := hL.nil0 rfl
    have hcl := hL.cle
    obtain rfl : c = 0 := hc0
    obtain rfl : n = 0 := by omega
    obtain rfl : L = [] := List.eq_nil_of_length_eq_zero hleq
    go_enter Tryz.func132, Tryz.ntmps132
    go_wp2
    go_ret
    exact ⟨none, 0, rfl, OwnZ.none _ _ _ _ _, Below.refl _ _⟩
  | some x =>
    have hown0 := OwnZ.lit encD 3 35 w
    have hbel0 := below_alloc w (.cells #[] 35)
    have hL0 := hL.below hbel0
    have hcm := hL.capm
    have hcl := hL.cle
    have HQ := Lib.hid hleq
    clear hL hleq
    go_enter Tryz.func132, Tryz.ntmps132
    go_wp2_with (at_builtin; refine wpList_append_rows encD_len (by decide) encD_one (by rfl) (.tmp 5) (.tmp 6) 29 (by rfl) 35 i0 (.agg #[.int .i64 0, .int .i64 0, .int .i64 0]) 24 Tryz.underlying29 hi hz0 hz1 hz2 rfl hown0 rfl hL0 rfl n (by omega) (by unfold maxLen; omega) (by omega) hbel0.size ?_; intro a2 c2 w2 hO2 hb2 hg2 ha2; have hB2 := hbel0.trans hb2)
    go_ret
    exact ⟨a2, c2, rfl, hO2, hB2⟩

set_option maxHeartbeats 4000000 in
set_option maxRecDepth 100000 in
theorem eventCloneC0 (e : EventN) (a : Option Addr) (n c : Nat) (w : World) (h : RowOf encD 3 w a n c e.over) (hl : lightE e = true) :
    Calls Tryz.prog 98 #[.agg #[.int .i64 e.dot.dev, .int .i64 e.dot.inc, .int .i64 e.dot.seq, .int .i64 e.stamp.wall, .int .i64 e.stamp.count, .int .i64 e.stamp.dev, .int .i64 e.kind, .string (str e.item.name), .string (str e.item.dom), .string (str e.item.path), .string (str e.item.val), .bool e.item.host, .bool e.item.sec, .bool e.item.http, .bool e.item.pers, .int .i64 e.item.exp, .int .i64 e.item.made, .int .i64 e.item.used, .slice a n c]] w fun en w' => ∃ b d, en = .returned (.agg #[.int .i64 e.dot.dev, .int .i64 e.dot.inc, .int .i64 e.dot.seq, .int .i64 e.stamp.wall, .int .i64 e.stamp.count, .int .i64 e.stamp.dev, .int .i64 e.kind, .string (str e.item.name), .string (str e.item.dom), .string (str e.item.path), .string (str e.item.val), .bool e.item.host, .bool e.item.sec, .bool e.item.http, .bool e.item.pers, .int .i64 e.item.exp, .int .i64 e.item.made, .int .i64 e.item.used, .slice b n d]) ∧ OwnZ encD 3 w.heap.size 35 b n d e.over w' ∧ Below w.heap.size w w' := by
  have hn := h.leq
  have hn2 : n ≤ 100000 := by
    unfold lightE at hl
    simp only [Bool.and_eq_true, decide_eq_true_eq] at hl
    omega
  have hb := below_alloc w (.cells #[.int .i64 e.dot.dev, .int .i64 e.dot.inc, .int .i64 e.dot.seq, .int .i64 e.stamp.wall, .int .i64 e.stamp.count, .int .i64 e.stamp.dev, .int .i64 e.kind, .string (str e.item.name), .string (str e.item.dom), .string (str e.item.path), .string (str e.item.val), .bool e.item.host, .bool e.item.sec, .bool e.item.http, .bool e.item.pers, .int .i64 e.item.exp, .int .i64 e.item.made, .int .i64 e.item.used, .slice a n c] 43)
  have O := ObjAt.new w #[.int .i64 e.dot.dev, .int .i64 e.dot.inc, .int .i64 e.dot.seq, .int .i64 e.stamp.wall, .int .i64 e.stamp.count, .int .i64 e.stamp.dev, .int .i64 e.kind, .string (str e.item.name), .string (str e.item.dom), .string (str e.item.path), .string (str e.item.val), .bool e.item.host, .bool e.item.sec, .bool e.item.http, .bool e.item.pers, .int .i64 e.item.exp, .int .i64 e.item.made, .int .i64 e.item.used, .slice a n c] 43
  have s1 : (w.alloc (.cells #[.int .i64 e.dot.dev, .int .i64 e.dot.inc, .int .i64 e.dot.seq, .int .i64 e.stamp.wall, .int .i64 e.stamp.count, .int .i64 e.stamp.dev, .int .i64 e.kind, .string (str e.item.name), .string (str e.item.dom), .string (str e.item.path), .string (str e.item.val), .bool e.item.host, .bool e.item.sec, .bool e.item.http, .bool e.item.pers, .int .i64 e.item.exp, .int .i64 e.item.made, .int .i64 e.item.used, .slice a n c] 43)).heap.size = w.heap.size + 1 := by simp
  generalize hv : w.alloc (.cells #[.int .i64 e.dot.dev, .int .i64 e.dot.inc, .int .i64 e.dot.seq, .int .i64 e.stamp.wall, .int .i64 e.stamp.count, .int .i64 e.stamp.dev, .int .i64 e.kind, .string (str e.item.name), .string (str e.item.dom), .string (str e.item.path), .string (str e.item.val), .bool e.item.host, .bool e.item.sec, .bool e.item.http, .bool e.item.pers, .int .i64 e.item.exp, .int .i64 e.item.made, .int .i64 e.item.used, .slice a n c] 43) = v at *
  have b2 := below_alloc v (.cells #[.int .i64 0, .int .i64 0, .int .i64 0, .int .i64 0, .int .i64 0, .int .i64 0, .int .i64 0, .string ⟨#[]⟩, .string ⟨#[]⟩, .string ⟨#[]⟩, .string ⟨#[]⟩, .bool false, .bool false, .bool false, .bool false, .int .i64 0, .int .i64 0, .int .i64 0, .slice none 0 0] 43)
  have oR := ObjAt.new v #[.int .i64 0, .int .i64 0, .int .i64 0, .int .i64 0, .int .i64 0, .int .i64 0, .int .i64 0, .string ⟨#[]⟩, .string ⟨#[]⟩, .string ⟨#[]⟩, .string ⟨#[]⟩, .bool false, .bool false, .bool false, .bool false, .int .i64 0, .int .i64 0, .int .i64 0, .slice none 0 0] 43
  rw [s1] at oR
  replace O := O.below b2 O.lt
  replace hb := hb.trans (b2.mono hb.size)
  generalize hv2 : v.alloc (.cells #[.int .i64 0, .int .i64 0, .int .i64 0, .int .i64 0, .int .i64 0, .int .i64 0, .int .i64 0, .string ⟨#[]⟩, .string ⟨#[]⟩, .string ⟨#[]⟩, .string ⟨#[]⟩, .bool false, .bool false, .bool false, .bool false, .int .i64 0, .int .i64 0, .int .i64 0, .slice none 0 0] 43) = v2 at *
  have HS2 := Lib.hid oR.lt
  have HC := dotCloneC a n c e.over v2 (h.below hb) hn2
  unfold GivesZ at HC
  have c18 := O.cell 18 rfl
  obtain ⟨A, hA⟩ : ∃ A, (#[.int .i64 e.dot.dev, .int .i64 e.dot.inc, .int .i64 e.dot.seq, .int .i64 e.stamp.wall, .int .i64 e.stamp.count, .int .i64 e.stamp.dev, .int .i64 e.kind, .string (str e.item.name), .string (str e.item.dom), .string (str e.item.path), .string (str e.item.val), .bool e.item.host, .bool e.item.sec, .bool e.item.http, .bool e.item.pers, .int .i64 e.item.exp, .int .i64 e.item.made, .int .i64 e.item.used, .slice a n c] : Array Value) = A := ⟨_, rfl⟩
  rw [hA] at hv O
  rw [hA]
  have hset : ∀ u, (A.toList.set 18 u) = (A.setIfInBounds 18 u).toList := fun u => by simp
  have hA2 : ∀ a2 c2, A.setIfInBounds 18 (.slice a2 n c2) = #[.int .i64 e.dot.dev, .int .i64 e.dot.inc, .int .i64 e.dot.seq, .int .i64 e.stamp.wall, .int .i64 e.stamp.count, .int .i64 e.stamp.dev, .int .i64 e.kind, .string (str e.item.name), .string (str e.item.dom), .string (str e.item.path), .string (str e.item.val), .bool e.item.host, .bool e.item.sec, .bool e.item.http, .bool e.item.pers, .int .i64 e.item.exp, .int .i64 e.item.made, .int .i64 e.item.used, .slice a2 n c2] := fun a2 c2 => by rw [← hA]; rfl
  clear h hA hl hn
  go_enter Tryz.func98, Tryz.ntmps98
  go_wp2_with (first
    | (go_at_call 132; (with_reducible refine HC.mono ?_); rintro e3 w3 ⟨a2, c2, rfl, ho, hx⟩; replace O := O.below hx O.lt; replace oR := oR.below hx oR.lt; replace hb := hb.trans (hx.mono hb.size); have d18 := (hx.cell (p := ⟨w.heap.size, 18, none⟩) (cell_lt c18)).trans c18; have f18 := O.free 18; have hat := Lib.hid ho.lt'; replace ho := ho.base (base' := w.heap.size) (by have := HS2.out; omega); have O2 := O.set 18 (.slice a2 n c2); rw [hset, hA2] at O2; have oR2 := oR.other (p := ⟨w.heap.size, 18, none⟩) (by simp) (.slice a2 n c2); obtain ⟨A2, hA2e⟩ : ∃ X, (#[.int .i64 e.dot.dev, .int .i64 e.dot.inc, .int .i64 e.dot.seq, .int .i64 e.stamp.wall, .int .i64 e.stamp.count, .int .i64 e.stamp.dev, .int .i64 e.kind, .string (str e.item.name), .string (str e.item.dom), .string (str e.item.path), .string (str e.item.val), .bool e.item.host, .bool e.item.sec, .bool e.item.http, .bool e.item.pers, .int .i64 e.item.exp, .int .i64 e.item.made, .int .i64 e.item.used, .slice a2 n c2] : Array Value) = X := ⟨_, rfl⟩; have hsz : A2.size = 19 := (by rw [← hA2e]; rfl); have oA : A2.all (·.oneCell') = true := (by rw [← hA2e]; simp [Value.oneCell']); rw [hA2e] at O2)
    | ((with_reducible change wpList _ _ _ _ _ (World.setCell _ _ _)); refine wpList_loadAll rfl 43 _ rfl w.heap.size 19 A2 rfl O2 Tryz.isAgg43 Tryz.sizeOf43 hsz ?_)
    | ((with_reducible change wpList _ _ _ _ _ (World.setCell _ _ _)); refine wpList_storeOver rfl 43 _ _ rfl (w.heap.size + 1) _ A2 19 rfl rfl oR2 (by kernel_rfl) rfl hsz oA ?_))
  have hne : w.heap.size + 1 ≠ w.heap.size := by omega
  have ho2 := ho.setCell (p := ⟨w.heap.size, 18, none⟩) (apart_iff.2 fun hk => by have := (hat.out w.heap.size hk).1; have := HS2.out; omega) (.slice a2 n c2)
  have HLV := loadVarBig (P := Tryz.prog) 43 (w.heap.size + 1) 19 A2 (oR2.setRow A2) Tryz.isAgg43 Tryz.sizeOf43 hsz
  have KR := (Keeps.refl (fun k => k = w.heap.size + 1) (w3.setCell ⟨w.heap.size, 18, none⟩ (.slice a2 n c2))).setRow rfl A2
  exact bodyPost_ret (v := .agg A2) (results_big1 Tryz.results98 rfl HLV) rfl ⟨a2, c2, by rw [hA2e], ho2.keeps KR (fun j h1 h2 => by have := (hat.out j h1).1; have := HS2.out; omega), below_rowSet (hb.setCell (p := ⟨w.heap.size, 18, none⟩) (Nat.le_refl _) _) (by omega) A2⟩

end Go.Proofs.YtelgaglnmcggkaaGreatDoor

/- The program's own contracts of layer 20: which events may be. -/
namespace Go.Proofs.YtelgaglnmcggkaaGreatDoor
open Go.RowKit
set_option linter.unusedVariables false
set_option linter.unusedSimpArgs false

/-- May an event be over its dots? -/
def overB (e : EventN) : Bool := decide (e.over.length ≤ 64) && (List.range e.over.length).all (okO e.over e.dot)
/-- Has it what its kind asks for? -/
theorem right_split (e : EventN) : rightE e = (rightD e.dot && (rightT e.stamp && (e.stamp.dev == e.dot.dev && (overB e && kindE e)))) := by
  unfold rightE headE overB
  cases rightD e.dot <;> cases rightT e.stamp <;> cases (e.stamp.dev == e.dot.dev) <;> cases decide (e.over.length ≤ 64) <;> cases (List.range e.over.length).all (okO e.over e.dot) <;> rfl
/-- The dot ahead of the one at a place; the zero one ahead of the first. -/
def prevO (L : List DotN) (k : Nat) : DotN := if k = 0 then ⟨0, 0, 0⟩ else L.getD (k - 1) ⟨0, 0, 0⟩
theorem ok_is (L : List DotN) (d x y : DotN) (k : Nat) (hx : L.getD k ⟨0, 0, 0⟩ = x) (hy : y = prevO L k) :
    okO L d k = (rightD x && (lessD y x && !((x.dev == d.dev && x.inc == d.inc) && decide (d.seq ≤ x.seq)))) := by
  unfold okO prevO at *
  rw [hx]
  cases hr : rightD x with
  | false => rfl
  | true =>
    by_cases h : k = 0
    · rw [if_pos h] at hy
      subst h hy
      rw [zero_less hr]
      rfl
    · rw [if_neg h] at hy
      rw [← hy, beq_eq_false_iff_ne.2 h, Bool.false_or]

/-- An event in its box; the dot ahead, in a block of its own. -/
structure StO (w : World) (e : EventN) (a : Option Addr) (n c B : Nat) (y : DotN) (v : World) : Prop where
  o : ObjAt v w.heap.size [.int .i64 e.dot.dev, .int .i64 e.dot.inc, .int .i64 e.dot.seq, .int .i64 e.stamp.wall, .int .i64 e.stamp.count, .int .i64 e.stamp.dev, .int .i64 e.kind, .string (str e.item.name), .string (str e.item.dom), .string (str e.item.path), .string (str e.item.val), .bool e.item.host, .bool e.item.sec, .bool e.item.http, .bool e.item.pers, .int .i64 e.item.exp, .int .i64 e.item.made, .int .i64 e.item.used, .slice a n c]
  oy : ObjAt v B [.int .i64 y.dev, .int .i64 y.inc, .int .i64 y.seq]
  hB : w.heap.size < B
  hb : Below w.heap.size w v
theorem StO.below {w v v' : World} {e : EventN} {a : Option Addr} {n c B : Nat} {y : DotN} (h : StO w e a n c B y v) (hx : Below v.heap.size v v') : StO w e a n c B y v' :=
  ⟨h.o.below hx h.o.lt, h.oy.below hx h.oy.lt, h.hB, h.hb.trans (hx.mono h.hb.size)⟩
theorem StO.put {w v : World} {e : EventN} {a : Option Addr} {n c B : Nat} {y : DotN} (h : StO w e a n c B y v) (x : DotN) : StO w e a n c B x (((v.setCell ⟨B, 0, none⟩ (.int .i64 x.dev)).setCell ⟨B, 1, none⟩ (.int .i64 x.inc)).setCell ⟨B, 2, none⟩ (.int .i64 x.seq)) := by
  have hne : B ≠ w.heap.size := fun e => by have := h.hB; omega
  exact ⟨((h.o.other (p := ⟨B, 0, none⟩) hne _).other (p := ⟨B, 1, none⟩) hne _).other (p := ⟨B, 2, none⟩) hne _, ((h.oy.set 0 _).set 1 _).set 2 _, h.hB, ((h.hb.setCell (p := ⟨B, 0, none⟩) (Nat.le_of_lt h.hB) _).setCell (p := ⟨B, 1, none⟩) (Nat.le_of_lt h.hB) _).setCell (p := ⟨B, 2, none⟩) (Nat.le_of_lt h.hB) _⟩

set_option maxHeartbeats 4000000 in
set_option maxRecDepth 100000 in
theorem rightOverC (e : EventN) (a : Option Addr) (n c : Nat) (w : World) (h : RowOf encD 3 w a n c e.over) :
    Calls Tryz.prog 93 #[.agg #[.int .i64 e.dot.dev, .int .i64 e.dot.inc, .int .i64 e.dot.seq, .int .i64 e.stamp.wall, .int .i64 e.stamp.count, .int .i64 e.stamp.dev, .int .i64 e.kind, .string (str e.item.name), .string (str e.item.dom), .string (str e.item.path), .string (str e.item.val), .bool e.item.host, .bool e.item.sec, .bool e.item.http, .bool e.item.pers, .int .i64 e.item.exp, .int .i64 e.item.made, .int .i64 e.item.used, .slice a n c]] w fun en w' => en = .returned (.bool (overB e)) ∧ Below w.heap.size w w' := by
  have hb := below_alloc w (.cells #[.int .i64 e.dot.dev, .int .i64 e.dot.inc, .int .i64 e.dot.seq, .int .i64 e.stamp.wall, .int .i64 e.stamp.count, .int .i64 e.stamp.dev, .int .i64 e.kind, .string (str e.item.name), .string (str e.item.dom), .string (str e.item.path), .string (str e.item.val), .bool e.item.host, .bool e.item.sec, .bool e.item.http, .bool e.item.pers, .int .i64 e.item.exp, .int .i64 e.item.made, .int .i64 e.item.used, .slice a n c] 43)
  have o1 := ObjAt.new w #[.int .i64 e.dot.dev, .int .i64 e.dot.inc, .int .i64 e.dot.seq, .int .i64 e.stamp.wall, .int .i64 e.stamp.count, .int .i64 e.stamp.dev, .int .i64 e.kind, .string (str e.item.name), .string (str e.item.dom), .string (str e.item.path), .string (str e.item.val), .bool e.item.host, .bool e.item.sec, .bool e.item.http, .bool e.item.pers, .int .i64 e.item.exp, .int .i64 e.item.made, .int .i64 e.item.used, .slice a n c] 43
  have s1 : (w.alloc (.cells #[.int .i64 e.dot.dev, .int .i64 e.dot.inc, .int .i64 e.dot.seq, .int .i64 e.stamp.wall, .int .i64 e.stamp.count, .int .i64 e.stamp.dev, .int .i64 e.kind, .string (str e.item.name), .string (str e.item.dom), .string (str e.item.path), .string (str e.item.val), .bool e.item.host, .bool e.item.sec, .bool e.item.http, .bool e.item.pers, .int .i64 e.item.exp, .int .i64 e.item.made, .int .i64 e.item.used, .slice a n c] 43)).heap.size = w.heap.size + 1 := by simp
  generalize hv : w.alloc (.cells #[.int .i64 e.dot.dev, .int .i64 e.dot.inc, .int .i64 e.dot.seq, .int .i64 e.stamp.wall, .int .i64 e.stamp.count, .int .i64 e.stamp.dev, .int .i64 e.kind, .string (str e.item.name), .string (str e.item.dom), .string (str e.item.path), .string (str e.item.val), .bool e.item.host, .bool e.item.sec, .bool e.item.http, .bool e.item.pers, .int .i64 e.item.exp, .int .i64 e.item.made, .int .i64 e.item.used, .slice a n c] 43) = v at *
  have hn := h.leq
  have hcm := h.capm
  have hcl := h.cle
  unfold maxLen at hcm
  have c18 := o1.cell 18 rfl
  by_cases q4 : 64 < n
  · have q4b : (64 : Int) < (n : Int) := by omega
    have E : overB e = false := by unfold overB; rw [decide_eq_false (by omega)]; rfl
    rw [E]
    clear E h o1
    go_enter Tryz.func93, Tryz.ntmps93
    go_wp2
    go_ret
    exact ⟨rfl, hb⟩
  · have q4b : ¬ (64 : Int) < (n : Int) := by omega
    have E : Hid (overB e = (List.range n).all (okO e.over e.dot)) := by
      show _ = _
      unfold overB
      rw [hn, decide_eq_true (by omega : n ≤ 64), Bool.true_and]
    have b2 := below_alloc v (.cells #[.int .i64 0, .int .i64 0, .int .i64 0] 35)
    have oz := ObjAt.new v #[.int .i64 0, .int .i64 0, .int .i64 0] 35
    rw [s1] at oz
    have hS0 : Hid (StO w e a n c (w.heap.size + 1) ⟨0, 0, 0⟩ (v.alloc (.cells #[.int .i64 0, .int .i64 0, .int .i64 0] 35))) := ⟨o1.below b2 o1.lt, oz, by omega, hb.trans (b2.mono hb.size)⟩
    have HROW := Lib.hid h
    have c18 := hS0.out.o.cell 18 rfl
    clear h o1 hb b2 q4 oz
    go_enter Tryz.func93, Tryz.ntmps93
    go_wp2
    go_loopw [13] (fun i wr => ∃ (k : Nat) (y : DotN), k ≤ n ∧ i = .int .i64 (k : Int) ∧ Hid (∀ j, j < k → okO e.over e.dot j = true) ∧ Hid (y = prevO e.over k) ∧ StO w e a n c (w.heap.size + 1) y wr) (fun i _ => n - (intOf i).toNat)
    case atStart => exact ⟨0, ⟨0, 0, 0⟩, Nat.zero_le _, rfl, fun j hj => absurd hj (Nat.not_lt_zero _), rfl, hS0.out⟩
    case round =>
      clear hS0 c18
      obtain ⟨k, y, hk, rfl, hall, hy, hS⟩ := hrel
      have e0 := hS.o.cell 0 rfl; have e1 := hS.o.cell 1 rfl; have e2 := hS.o.cell 2 rfl; have e18 := hS.o.cell 18 rfl
      by_cases hlt : k < n
      · have hlt' : (k : Int) < (n : Int) := by omega
        obtain ⟨x, g, off, hxk, rfl, p0, p1, p2⟩ := dot_at (HROW.out.below hS.hb) k hlt
        have hok := Lib.hid (ok_is e.over e.dot x y k (by rw [List.getD_eq_getElem?_getD, hxk]; rfl) hy.out)
        have hpr : Hid (x = prevO e.over (k + 1)) := by
          show _ = _
          unfold prevO
          rw [if_neg (Nat.succ_ne_zero k), Nat.add_sub_cancel, List.getD_eq_getElem?_getD, hxk]
          rfl
        have hyes : Hid (okO e.over e.dot k = true → ∀ j, j < k + 1 → okO e.over e.dot j = true) := fun h j hj => by
          by_cases hjk : j = k
          · rw [hjk]; exact h
          · exact hall.out j (by omega)
        have hno : Hid (okO e.over e.dot k = false → (List.range n).all (okO e.over e.dot) = false) := fun h => by
          rw [List.all_eq_false]
          exact ⟨k, List.mem_range.2 hlt, by rw [h]; exact Bool.false_ne_true⟩
        have HRx := fun v => dotRightC0 x v
        have HLx := fun v => dotLessG y x v
        have HEA := fun v => eqActor x.dev x.inc e.dot.dev e.dot.inc v
        have b3 := below_alloc wr (.cells #[.int .i64 x.dev, .int .i64 x.inc, .int .i64 x.seq] 35)
        have ox := ObjAt.new wr #[.int .i64 x.dev, .int .i64 x.inc, .int .i64 x.seq] 35
        have hS := hS.below b3
        have hxlt := ox.lt
        have e0 := hS.o.cell 0 rfl; have e1 := hS.o.cell 1 rfl; have e2 := hS.o.cell 2 rfl
        have x0 := ox.cell 0 rfl; have x1 := ox.cell 1 rfl; have x2 := ox.cell 2 rfl
        have y0 := hS.oy.cell 0 rfl; have y1 := hS.oy.cell 1 rfl; have y2 := hS.oy.cell 2 rfl
        obtain ⟨r1, hr1⟩ : ∃ r, rightD x = r := ⟨_, rfl⟩
        obtain ⟨r2, hr2⟩ : ∃ r, lessD y x = r := ⟨_, rfl⟩
        obtain ⟨r3, hr3⟩ : ∃ r, (x.dev == e.dot.dev && x.inc == e.dot.inc) = r := ⟨_, rfl⟩
        obtain ⟨r4, hr4⟩ : ∃ r, decide (e.dot.seq ≤ x.seq) = r := ⟨_, rfl⟩
        rw [hr1] at HRx
        rw [hr2] at HLx
        rw [hr3] at HEA
        rw [hr1, hr2, hr3, hr4] at hok
        clear hr1 hr2 hr3 hxk hlt
        cases r1 with
        | false =>
          clear HLx HEA hr4
          go_wp2_with (first | (go_at_call 91; (with_reducible refine (HRx _).mono ?_); rintro e7 w7 ⟨rfl, hx⟩; have hS := hS.below hx; have ox := ox.below hx ox.lt; have e0 := hS.o.cell 0 rfl; have e1 := hS.o.cell 1 rfl; have e2 := hS.o.cell 2 rfl; have x0 := ox.cell 0 rfl; have x1 := ox.cell 1 rfl; have x2 := ox.cell 2 rfl; have y0 := hS.oy.cell 0 rfl; have y1 := hS.oy.cell 1 rfl; have y2 := hS.oy.cell 2 rfl; have f0 := hS.oy.free 0; have f1 := hS.oy.free 1; have f2 := hS.oy.free 2; clear hx) | (go_at_call 122; (with_reducible refine (HLx _).mono ?_); rintro e8 w8 ⟨rfl, hx⟩; have hS := hS.below hx; have ox := ox.below hx ox.lt; have e0 := hS.o.cell 0 rfl; have e1 := hS.o.cell 1 rfl; have e2 := hS.o.cell 2 rfl; have x0 := ox.cell 0 rfl; have x1 := ox.cell 1 rfl; have x2 := ox.cell 2 rfl; have y0 := hS.oy.cell 0 rfl; have y1 := hS.oy.cell 1 rfl; have y2 := hS.oy.cell 2 rfl; have f0 := hS.oy.free 0; have f1 := hS.oy.free 1; have f2 := hS.oy.free 2; clear hx))
          go_ret
          exact ⟨by rw [E.out, hno.out (by rw [hok.out]; rfl)]; rfl, hS.hb⟩
        | true =>
        cases r2 with
        | false =>
          clear HEA hr4
          go_wp2_with (first | (go_at_call 91; (with_reducible refine (HRx _).mono ?_); rintro e7 w7 ⟨rfl, hx⟩; have hS := hS.below hx; have ox := ox.below hx ox.lt; have e0 := hS.o.cell 0 rfl; have e1 := hS.o.cell 1 rfl; have e2 := hS.o.cell 2 rfl; have x0 := ox.cell 0 rfl; have x1 := ox.cell 1 rfl; have x2 := ox.cell 2 rfl; have y0 := hS.oy.cell 0 rfl; have y1 := hS.oy.cell 1 rfl; have y2 := hS.oy.cell 2 rfl; have f0 := hS.oy.free 0; have f1 := hS.oy.free 1; have f2 := hS.oy.free 2; clear hx) | (go_at_call 122; (with_reducible refine (HLx _).mono ?_); rintro e8 w8 ⟨rfl, hx⟩; have hS := hS.below hx; have ox := ox.below hx ox.lt; have e0 := hS.o.cell 0 rfl; have e1 := hS.o.cell 1 rfl; have e2 := hS.o.cell 2 rfl; have x0 := ox.cell 0 rfl; have x1 := ox.cell 1 rfl; have x2 := ox.cell 2 rfl; have y0 := hS.oy.cell 0 rfl; have y1 := hS.oy.cell 1 rfl; have y2 := hS.oy.cell 2 rfl; have f0 := hS.oy.free 0; have f1 := hS.oy.free 1; have f2 := hS.oy.free 2; clear hx))
          go_ret
          exact ⟨by rw [E.out, hno.out (by rw [hok.out]; rfl)]; rfl, hS.hb⟩
        | true =>
        cases r3 with
        | false =>
          clear hr4
          go_wp2_with (first | (go_at_call 91; (with_reducible refine (HRx _).mono ?_); rintro e7 w7 ⟨rfl, hx⟩; have hS := hS.below hx; have ox := ox.below hx ox.lt; have e0 := hS.o.cell 0 rfl; have e1 := hS.o.cell 1 rfl; have e2 := hS.o.cell 2 rfl; have x0 := ox.cell 0 rfl; have x1 := ox.cell 1 rfl; have x2 := ox.cell 2 rfl; have y0 := hS.oy.cell 0 rfl; have y1 := hS.oy.cell 1 rfl; have y2 := hS.oy.cell 2 rfl; have f0 := hS.oy.free 0; have f1 := hS.oy.free 1; have f2 := hS.oy.free 2; clear hx) | (go_at_call 122; (with_reducible refine (HLx _).mono ?_); rintro e8 w8 ⟨rfl, hx⟩; have hS := hS.below hx; have ox := ox.below hx ox.lt; have e0 := hS.o.cell 0 rfl; have e1 := hS.o.cell 1 rfl; have e2 := hS.o.cell 2 rfl; have x0 := ox.cell 0 rfl; have x1 := ox.cell 1 rfl; have x2 := ox.cell 2 rfl; have y0 := hS.oy.cell 0 rfl; have y1 := hS.oy.cell 1 rfl; have y2 := hS.oy.cell 2 rfl; have f0 := hS.oy.free 0; have f1 := hS.oy.free 1; have f2 := hS.oy.free 2; clear hx))
          go_roundw
          case rel => exact ⟨k + 1, x, by omega, by go_num, hyes.out (by rw [hok.out]; rfl), hpr, hS.put x⟩
          case measure => simp [intOf]; omega
        | true =>
        cases r4 with
        | true =>
          have hr4 := of_decide_eq_true hr4
          go_wp2_with (first | (go_at_call 91; (with_reducible refine (HRx _).mono ?_); rintro e7 w7 ⟨rfl, hx⟩; have hS := hS.below hx; have ox := ox.below hx ox.lt; have e0 := hS.o.cell 0 rfl; have e1 := hS.o.cell 1 rfl; have e2 := hS.o.cell 2 rfl; have x0 := ox.cell 0 rfl; have x1 := ox.cell 1 rfl; have x2 := ox.cell 2 rfl; have y0 := hS.oy.cell 0 rfl; have y1 := hS.oy.cell 1 rfl; have y2 := hS.oy.cell 2 rfl; have f0 := hS.oy.free 0; have f1 := hS.oy.free 1; have f2 := hS.oy.free 2; clear hx) | (go_at_call 122; (with_reducible refine (HLx _).mono ?_); rintro e8 w8 ⟨rfl, hx⟩; have hS := hS.below hx; have ox := ox.below hx ox.lt; have e0 := hS.o.cell 0 rfl; have e1 := hS.o.cell 1 rfl; have e2 := hS.o.cell 2 rfl; have x0 := ox.cell 0 rfl; have x1 := ox.cell 1 rfl; have x2 := ox.cell 2 rfl; have y0 := hS.oy.cell 0 rfl; have y1 := hS.oy.cell 1 rfl; have y2 := hS.oy.cell 2 rfl; have f0 := hS.oy.free 0; have f1 := hS.oy.free 1; have f2 := hS.oy.free 2; clear hx))
          go_ret
          exact ⟨by rw [E.out, hno.out (by rw [hok.out]; rfl)]; rfl, hS.hb⟩
        | false =>
          have hr4 := of_decide_eq_false hr4
          go_wp2_with (first | (go_at_call 91; (with_reducible refine (HRx _).mono ?_); rintro e7 w7 ⟨rfl, hx⟩; have hS := hS.below hx; have ox := ox.below hx ox.lt; have e0 := hS.o.cell 0 rfl; have e1 := hS.o.cell 1 rfl; have e2 := hS.o.cell 2 rfl; have x0 := ox.cell 0 rfl; have x1 := ox.cell 1 rfl; have x2 := ox.cell 2 rfl; have y0 := hS.oy.cell 0 rfl; have y1 := hS.oy.cell 1 rfl; have y2 := hS.oy.cell 2 rfl; have f0 := hS.oy.free 0; have f1 := hS.oy.free 1; have f2 := hS.oy.free 2; clear hx) | (go_at_call 122; (with_reducible refine (HLx _).mono ?_); rintro e8 w8 ⟨rfl, hx⟩; have hS := hS.below hx; have ox := ox.below hx ox.lt; have e0 := hS.o.cell 0 rfl; have e1 := hS.o.cell 1 rfl; have e2 := hS.o.cell 2 rfl; have x0 := ox.cell 0 rfl; have x1 := ox.cell 1 rfl; have x2 := ox.cell 2 rfl; have y0 := hS.oy.cell 0 rfl; have y1 := hS.oy.cell 1 rfl; have y2 := hS.oy.cell 2 rfl; have f0 := hS.oy.free 0; have f1 := hS.oy.free 1; have f2 := hS.oy.free 2; clear hx))
          go_roundw
          case rel => exact ⟨k + 1, x, by omega, by go_num, hyes.out (by rw [hok.out]; rfl), hpr, hS.put x⟩
          case measure => simp [intOf]; omega
      · obtain rfl : k = n := by omega
        have hfull : Hid ((List.range k).all (okO e.over e.dot) = true) := by
          show _ = _
          rw [List.all_eq_true]
          intro j hj
          exact hall.out j (List.mem_range.1 hj)
        have hbb := hS.hb
        clear hall hy hS
        go_wp2
        go_ret
        exact ⟨by rw [E.out, hfull.out]; rfl, hbb⟩
end Go.Proofs.YtelgaglnmcggkaaGreatDoor
