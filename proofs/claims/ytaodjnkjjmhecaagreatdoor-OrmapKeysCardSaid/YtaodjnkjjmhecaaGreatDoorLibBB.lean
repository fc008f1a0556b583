/- Contracts and plain words that the laws' proofs stand on. -/
import Derived.Test.YtaodjnkjjmhecaaGreatDoorShort
import Derived.Test.YtaodjnkjjmhecaaGreatDoorLibBA
namespace Go.Proofs.YtaodjnkjjmhecaaGreatDoor
open Go.RowKit
set_option linter.unusedVariables false
def MetAt (D : DataW Unit) (l : List DotN) : Prop := Go.Maps.IsMap D ∧ ∀ x, FitD x → Go.Maps.has D (keyD x) = l.any (sameD x)
theorem MetAt.empty : MetAt (.map []) [] := ⟨Go.Maps.isMap_empty, fun x _ => rfl⟩
theorem MetAt.put {D : DataW Unit} {l : List DotN} (h : MetAt D l) {x : DotN} (hx : FitD x) : MetAt (D.put (keyD x) (.agg [])) (l ++ [x]) := by
  refine ⟨h.1.put _ _, fun y hy => ?_⟩
  by_cases e : y = x
  · subst e
    rw [any_same.2 (by simp)]
    exact Go.Maps.has_put_same h.1 (keyedDot.key (key_dot hy)) _
  · have hne : keyD y ≠ keyD x := fun c => e (keyD_inj hy hx c)
    have he : (l ++ [x]).any (sameD y) = l.any (sameD y) := by
      rw [List.any_append, Bool.eq_iff_iff, Bool.or_eq_true]
      constructor
      · rintro (h | h)
        · exact h
        · rw [any_same, List.mem_singleton] at h
          exact absurd h e
      · exact .inl
    rw [he, Go.Maps.has_put_other hne]
    exact h.2 y hy
theorem zeroUnit (w : World) : (zeroValue 123).run Tryz.prog w = .ok (.agg #[]) w := by kernel_rfl
set_option maxHeartbeats 2000000 in
set_option maxRecDepth 100000 in
theorem dotSortC0 (a : Option Addr) (n c : Nat) (L : List DotN) (w : World) (hL : RowOf encD 3 w a n c L) (hF : ∀ x ∈ L, FitD x) (hn : n ≤ 100000) :
    Calls Tryz.prog 95 #[.slice a n c] w (GivesZ encD 3 35 (sortD L) (sortD L).length w) := by
  have hcm := hL.capm
  have hcl := hL.cle
  have hleq := hL.leq
  unfold maxLen at hcm
  have hmm := @run_makeMap Tryz.prog
  obtain ⟨i0, hi, hz0, hz1, hz2⟩ := info_parts infoDot
  have hm0 := World.ownsMap_made (H := Unit) w Tryz.prog 35 unitElem
  have hb0 := below_alloc w (.map #[] 0)
  have hs0 : w.heap.size + 1 = (w.alloc (.map #[] 0)).heap.size := by simp
  generalize hw0 : w.alloc (.map #[] 0) = w0 at *
  go_enter Tryz.func95, Tryz.ntmps95
  go_wp2
  go_loopw [3, 12] (fun v i wr => ∃ (k m c2 : Nat) (q : Option Addr) (D : DataW Unit), k ≤ n ∧ m ≤ k ∧ i = .int .i64 (k : Int) ∧ v = .slice q m c2 ∧ OwnZ encD 3 (w.heap.size + 1) 35 q m c2 (dedD (L.take k)) wr ∧ wr.ownsMap Tryz.prog 35 unitElem w.heap.size k D ∧ MetAt D (dedD (L.take k)) ∧ Below w.heap.size w wr) (fun _ i _ => n - (intOf i).toNat)
  case atStart => exact ⟨0, 0, 0, none, _, Nat.zero_le _, Nat.le_refl _, rfl, rfl, OwnZ.none _ _ _ _ _, hm0, MetAt.empty, hb0⟩
  case round =>
    obtain ⟨k, m, c2, q, D, hk, hm, rfl, rfl, hz, hmap, hmet, hb⟩ := hrel
    have hwr : w.heap.size + 1 ≤ wr.heap.size := by have := hmap.lt; omega
    by_cases hlt : k < n
    · have hlt' : (k : Int) < (n : Int) := by omega
      obtain ⟨x, g, off, hxk, rfl, u0, u1, u2⟩ := dot_at (hL.below hb) k hlt
      have hfx : FitD x := hF x (List.mem_of_getElem? hxk)
      have hstep : dedD (L.take (k + 1)) = if (dedD (L.take k)).any (sameD x) then dedD (L.take k) else dedD (L.take k) ++ [x] := by
        rw [take_snocI hxk, dedD_snoc]
      have HS := Lib.hid hstep
      have hat0 := hmet.2 x hfx
      have o1 := ObjAt.new wr #[.int .i64 x.dev, .int .i64 x.inc, .int .i64 x.seq] 35
      have b1 := below_alloc wr (.cells #[.int .i64 x.dev, .int .i64 x.inc, .int .i64 x.seq] 35)
      have hz1' := hz.below b1 (Nat.le_refl _)
      have hmap1 := hmap.alloc (.cells #[.int .i64 x.dev, .int .i64 x.inc, .int .i64 x.seq] 35)
      have hb1 := hb.trans (b1.mono hb.size)
      have v0 := o1.cell 0 rfl; have v1 := o1.cell 1 rfl; have v2 := o1.cell 2 rfl
      have hlt1 := o1.lt
      have hs1 : wr.heap.size < (wr.alloc (.cells #[.int .i64 x.dev, .int .i64 x.inc, .int .i64 x.seq] 35)).heap.size := by simp
      have b1b := below_alloc (wr.alloc (.cells #[.int .i64 x.dev, .int .i64 x.inc, .int .i64 x.seq] 35)) (.cells #[] 123)
      have o1b := o1.below b1b hlt1
      have hz1b := hz1'.below b1b (Nat.le_refl _)
      have hmap1b := hmap1.alloc (.cells #[] 123)
      have hb1b := hb1.trans (b1b.mono hb1.size)
      have s0 := o1b.cell 0 rfl; have s1 := o1b.cell 1 rfl; have s2 := o1b.cell 2 rfl
      have hs1b := b1b.size
      clear hstep hxk hz hmap b1 b1b
      generalize dedD (L.take k) = R at *
      cases hy : R.any (sameD x) with
      | true =>
        rw [hy, if_pos rfl] at HS
        rw [hy] at hat0
        go_wp2_with (at_lookup; refine wpList_lookup_own_unit _ rfl _ _ 103 rfl 35 123 keyedDot Tryz.underlying103 (zeroUnit _) w.heap.size _ _ rfl hmap1 _ _ rfl (key_dot hfx) ?_)
        go_roundw
        case rel => exact ⟨k + 1, m, c2, q, D, by omega, by omega, by go_num, rfl, by rw [HS.out]; exact hz1b, hmap1b.mono (by omega), by rw [HS.out]; exact hmet, hb1b⟩
        case measure => simp [intOf]; omega
      | false =>
        rw [hy, if_neg Bool.false_ne_true] at HS
        rw [hy] at hat0
        go_wp2_with (first
          | (at_lookup; refine wpList_lookup_own_unit _ rfl _ _ 103 rfl 35 123 keyedDot Tryz.underlying103 (zeroUnit _) w.heap.size _ _ rfl hmap1 _ _ rfl (key_dot hfx) ?_)
          | (at_mapUpdate; refine wpList_mapUpdate_own _ rfl _ _ _ 103 rfl 35 123 keyedDot Tryz.underlying103 unitElem w.heap.size _ _ rfl hmap1b (by unfold maxLen; omega) _ _ _ rfl rfl (key_dot hfx) _ [] unitElem_mk ?_; intro w2 hmap2 hg2; have k2 := Keeps.ofGrownBy hg2; have o2 := o1b.keeps k2 (fun e => by have := Option.some.inj e; omega); have hz2' := hz1b.keeps k2 (fun i h1 h2 => by have := Option.some.inj h2; have := (hz1b.lt' _ h1).1; omega); have hb2 := hb1b.trans (k2.below hb1b.size (fun i _ h => by have := Option.some.inj h; omega)); have x0 := o2.cell 0 rfl; have x1 := o2.cell 1 rfl; have x2 := o2.cell 2 rfl)
          | (at_builtin; refine wpList_append_row1 encD_len (by decide) encD_one rfl (.tmp 27) (.tmp 29) 29 rfl 35 i0 (.agg #[.int .i64 0, .int .i64 0, .int .i64 0]) 24 Tryz.underlying29 hi hz0 hz1 hz2 rfl hz2' rfl x rfl rfl (m + 1) rfl (by unfold maxLen; omega) (by omega) (Nat.le_trans hwr (by have := k2.size; omega)) ?_; intro q3 c3 w3 hz3 hx3 hg3 hn3; have k3 := Keeps.ofGrown hx3 hg3; have hmap3 := k3.grownBy (fun h => by have := (hz2'.lt' _ h).1; omega) hmap2; have hb3 := hb2.trans (hx3.mono (Nat.le_succ _))))
        go_roundw
        case rel => exact ⟨k + 1, m + 1, c3, q3, _, by omega, by omega, by go_num, rfl, by rw [HS.out]; exact hz3, hmap3, by rw [HS.out]; exact hmet.put hfx, hb3⟩
        case measure => simp [intOf]; omega
    · obtain rfl : k = n := by omega
      have e0 : L.take k = L := List.take_of_length_le (by rw [hleq]; exact Nat.le_refl _)
      rw [e0] at hz hmet
      have hRl : (dedD L).length = m := hz.2.1
      rcases hz.head with ⟨rfl, rfl, rfl⟩ | ⟨g, rfl, hg1, hg2⟩
      · have hnil : dedD L = [] := List.eq_nil_of_length_eq_zero hRl
        have hs : sortD L = [] := by
          refine List.eq_nil_iff_forall_not_mem.2 fun y hy => ?_
          rw [sortD_mem, ← dedD_mem, hnil] at hy
          cases hy
        have hcon := fun v => AnyF.slices_SortFunc_none Tryz.sortDot none 0 (.func (.func 137) #[] #[]) v
        change ∀ v, Calls Tryz.prog 136 _ v _ at hcon
        go_wp2_with (go_at_call 136; refine (hcon _).mono ?_; rintro e w2 ⟨rfl, rfl⟩)
        go_ret
        rw [hs]
        exact ⟨none, 0, rfl, OwnZ.none _ _ _ _ _, hb⟩
      · have eg : ∀ args w, (callFunc 137 args).run Tryz.prog w = .ok (.enter 137 args) w := enters_of Tryz.func137 (by kernel_rfl) rfl
        have hcmp : Go.Proofs.CmpLays Tryz.prog 137 #[] encD 3 ordD g 0 (dedD L).toArray.size wr := fun _ _ _ _ x y => dotOrderG x y _
        have hcon := AnyQ.slices_SortFunc Tryz.sortDot 3 Tryz.isAgg35 Tryz.sizeOf35 encD encD_len encD_one ordD swoD 137 #[] g 0 c2 (dedD L).toArray wr eg hcmp (own_holds encD_len hz) hg2 (by simp [hRl]; omega)
        have hsz : (dedD L).toArray.size = m := by simp [hRl]
        rw [hsz] at hcon
        change Calls Tryz.prog 136 _ wr _ at hcon
        have HZ := Lib.hid hz
        clear hcmp hmet hmap hz eg
        go_wp2_with (go_at_call 136; refine hcon.mono ?_; rintro e w2 ⟨rfl, d', nn, os, hp, hso, rfl⟩)
        go_ret
        rw [← hsz] at hp
        obtain ⟨p1, p2⟩ := permIn_all hp
        rw [hsz] at p1
        have hlist : d'.toList = sortD L := sortD_is p2 (by
          have := sortedIn_all p1 hso
          simpa only [ord_less] using this)
        have hown := own_sorted encD_len HZ.out d'.toList (by simpa using p1) nn os
        rw [Array.toArray_toList] at hown
        have hlen : (sortD L).length = m := by rw [← hlist]; simpa using p1
        refine ⟨some ⟨g, 0, none⟩, c2, by rw [hlen]; rfl, by rw [hlen, ← hlist]; exact hown.base (Nat.le_succ _), hb.trans ((keeps_sortedK d').below hb.size (fun i _ h => by subst h; omega))⟩
def noSlots : Slots := fun _ => none
theorem Real.new {w : World} {p : Nat} (h : ObjAt w p [.map none, .map none, .map none, .map none]) : Real w p noSlots [] MapN.none :=
  ⟨h, .inl ⟨rfl, rfl⟩, .inl ⟨rfl, rfl⟩, .inl ⟨rfl, rfl⟩, .inl ⟨rfl, fun _ => rfl⟩, fun _ => .inl ⟨rfl, rfl⟩, fun _ _ => rfl, fun i j b e => (by cases e), OversAt.nil w, rfl, okMs_none, Nat.zero_le _, fun e he => (by cases he)⟩
theorem mNewI (w : World) : Calls Tryz.prog 17 #[] w fun e w' => ∃ p, e = .returned (.pointer (some ⟨p, 0, none⟩)) ∧ Real w' p noSlots [] MapN.none ∧ Below w.heap.size w w' ∧ w.heap.size ≤ p := by
  have o1 := ObjAt.new w #[.map none, .map none, .map none, .map none] 106
  have hb := below_alloc w (.cells #[.map none, .map none, .map none, .map none] 106)
  have hz : ∀ w, (zeroValue 106).run Tryz.prog w = .ok (.agg #[.map none, .map none, .map none, .map none]) w := fun w => by kernel_rfl
  go_enter Tryz.func17, Tryz.ntmps17
  go_wp2
  go_ret
  exact ⟨_, rfl, Real.new o1, hb, Nat.le_refl _⟩
def ArgM (w : World) (v : Value) (m : MapN) : Prop :=
  (v = .pointer none ∧ m = MapN.none) ∨ ∃ p B rs, v = .pointer (some ⟨p, 0, none⟩) ∧ Real w p B rs m
theorem ArgM.below {w w' : World} {v : Value} {m : MapN} (h : ArgM w v m) (hb : Below w.heap.size w w') : ArgM w' v m := by
  rcases h with h | ⟨p, B, rs, rfl, h⟩
  · exact .inl h
  · exact .inr ⟨p, B, rs, rfl, h.below hb⟩
theorem MapAt.arg {w : World} {p : Nat} {F R : Nat → Prop} {m : MapN} (h : MapAt w p F R m) : ArgM w (.pointer (some ⟨p, 0, none⟩)) m := by
  obtain ⟨B, rs, h1, -, -⟩ := h.real
  exact .inr ⟨p, B, rs, rfl, h1⟩
theorem Real.arg {w : World} {p : Nat} {B : Slots} {rs : List EvR} {m : MapN} (h : Real w p B rs m) : ArgM w (.pointer (some ⟨p, 0, none⟩)) m := .inr ⟨p, B, rs, rfl, h⟩
theorem mOrNewI {w : World} {v : Value} {m : MapN} (h : ArgM w v m) : Calls Tryz.prog 73 #[v] w fun e w' => ∃ p B rs, e = .returned (.pointer (some ⟨p, 0, none⟩)) ∧ Real w' p B rs m ∧ Below w.heap.size w w' := by
  rcases h with ⟨rfl, rfl⟩ | ⟨p, B, rs, rfl, h⟩
  · have HN := mNewI w
    go_enter Tryz.func73, Tryz.ntmps73
    go_wp2_with (go_at_call 17; (with_reducible refine HN.mono ?_); rintro e w1 ⟨p, rfl, h1, h2, h3⟩)
    go_ret
    exact ⟨p, _, _, rfl, h1, h2⟩
  · go_enter Tryz.func73, Tryz.ntmps73
    go_wp2
    go_ret
    exact ⟨p, B, rs, rfl, h, Below.refl _ _⟩
theorem mOrNewS (p : Nat) (w : World) : Calls Tryz.prog 73 #[.pointer (some ⟨p, 0, none⟩)] w fun e w' => e = .returned (.pointer (some ⟨p, 0, none⟩)) ∧ w = w' := by
  go_enter Tryz.func73, Tryz.ntmps73
  go_wp2
  go_ret
  exact ⟨rfl, rfl⟩
theorem SetIs.look {w : World} {o : Option Nat} {E : List DotN} (h : SetIs w o E) {x : DotN} (hx : FitD x) (ww : World) (he : ww.heap = w.heap) :
    (Instr.lookup 103 (.map o) (.agg #[.int .i64 x.dev, .int .i64 x.inc, .int .i64 x.seq]) true).run Tryz.prog ww = .ok (.tuple #[.agg #[], .bool (hasD E x)]) ww := by
  rcases h with ⟨rfl, rfl⟩ | ⟨B, n, D, rfl, hm, hD⟩
  · exact Go.Maps.look_nil true keyedDot Tryz.underlying103 (zeroUnit _) (key_dot hx)
  · have hm2 : ww.ownsMap Tryz.prog 35 unitElem B n D := by
      unfold World.ownsMap at hm ⊢
      rw [he]
      exact hm
    obtain ⟨v, ps, hrun, hv⟩ := hm2.look_ok (zd := .agg []) (zp := []) keyedDot Tryz.underlying103 (zeroUnit _) unitElem_mk (key_dot hx)
    obtain ⟨rfl, _⟩ := unitElem_inv hv
    rw [hD.has x hx] at hrun
    exact hrun
theorem KeptIs.len {w : World} {o : Option Nat} {rs : List EvR} (h : KeptIs w o rs) (ww : World) (he : ww.heap = w.heap) (ty : TypeId) :
    (Builtin.len_ #[102] ty #[.map o]).run Tryz.prog ww = .ok (.int .i64 (rs.length : Int)) ww := by
  rcases h with ⟨rfl, rfl⟩ | ⟨B, n, D, rfl, hm, hD⟩
  · exact Go.Maps.len_nil Tryz.underlying102 ty
  · have hm2 : ww.ownsMap Tryz.prog 35 heldElem B n D := by
      unfold World.ownsMap at hm ⊢
      rw [he]
      exact hm
    have h1 := hm2.len Tryz.underlying102 ty
    rw [hD.size] at h1
    exact h1
set_option maxRecDepth 100000 in
theorem mLenA {w : World} {v : Value} {m : MapN} (h : ArgM w v m) : Calls Tryz.prog 46 #[v] w fun e w' => e = .returned (.int .i64 (m.kept.length : Int)) ∧ Below w.heap.size w w' := by
  have HO := mOrNewI h
  go_enter Tryz.func46, Tryz.ntmps46
  go_wp2_with (go_at_call 73; (with_reducible refine HO.mono ?_); rintro e w1 ⟨p, B, rs, rfl, hR, hx⟩; have c1 := hR.obj.cell 1 rfl; have hl := fun ty => hR.kept.len w1 rfl ty; have hrl : (rs.length : Int) = (m.kept.length : Int) := (by rw [← hR.rs, List.length_map]))
  go_ret
  exact ⟨by first | rw [hrl] | rfl, hx⟩
set_option maxRecDepth 100000 in
theorem mRoomA {w : World} {p : Nat} {B : Slots} {rs : List EvR} {m : MapN} (x : Int) (h : Real w p B rs m) (hx : 0 ≤ x ∧ x ≤ 1000000) : Calls Tryz.prog 47 #[.pointer (some ⟨p, 0, none⟩), .int .i64 x] w fun en w' => en = .returned (.bool (decide ((m.kept.length : Int) + x ≤ 2048))) ∧ Below w.heap.size w w' := by
  have HL := mLenA h.arg
  have hfew := h.few
  generalize m.kept.length = n at *
  have hw : IntKind.i64.wrap (2048 - (n : Int)) = 2048 - (n : Int) := by rw [IntKind.wrap_i64]; omega
  have hd : decide (x ≤ 2048 - (n : Int)) = decide ((n : Int) + x ≤ 2048) := decide_eq_decide.2 (by omega)
  go_enter Tryz.func47, Tryz.ntmps47
  go_wp2_with (go_at_call 46; (with_reducible refine HL.mono ?_); rintro e w1 ⟨rfl, hx1⟩)
  go_ret
  exact ⟨by first | rw [hd] | rfl, hx1⟩
end Go.Proofs.YtaodjnkjjmhecaaGreatDoor
namespace Go.Proofs.YtaodjnkjjmhecaaGreatDoor
open Go.RowKit
set_option linter.unusedVariables false
set_option linter.unusedSimpArgs false
set_option maxRecDepth 100000 in
set_option maxHeartbeats 2000000 in
theorem mHasA {w : World} {v : Value} {m : MapN} (h : ArgM w v m) (d : DotN) (hd : FitD d) : Calls Tryz.prog 36 #[v, .agg #[.int .i64 d.dev, .int .i64 d.inc, .int .i64 d.seq]] w fun en w' => en = .returned (.bool (hasV m.ctx d)) ∧ Below w.heap.size w w' := by
  have HO := fun ww (ha : ArgM ww v m) => mOrNewI ha
  have HV := fun ww p B rs (hR : Real ww p B rs m) => vHasA hR.vec.arg d hd
  obtain ⟨dev, inc, seq⟩ := d
  dsimp only at *
  have o1 := ObjAt.new w #[.int .i64 dev, .int .i64 inc, .int .i64 seq] 35
  have b1 := below_alloc w (.cells #[.int .i64 dev, .int .i64 inc, .int .i64 seq] 35)
  have ha1 := h.below b1
  generalize hw1 : w.alloc (.cells #[.int .i64 dev, .int .i64 inc, .int .i64 seq] 35) = w1 at *
  have l1 := o1.lt
  have hS0 : ∀ v, Below w1.heap.size w1 v → v.cell? ⟨w.heap.size, 0, none⟩ = some (.int .i64 dev) ∧ v.cell? ⟨w.heap.size, 1, none⟩ = some (.int .i64 inc) ∧ v.cell? ⟨w.heap.size, 2, none⟩ = some (.int .i64 seq) := fun v hv => ⟨(o1.below hv l1).cell 0 rfl, (o1.below hv l1).cell 1 rfl, (o1.below hv l1).cell 2 rfl⟩
  have hB1 : Below w1.heap.size w1 w1.drew := (Below.refl _ _).drew
  generalize hasV m.ctx ⟨dev, inc, seq⟩ = t at *
  go_enter Tryz.func36, Tryz.ntmps36
  go_wp2_with fail
  refine wp_region_held_drew (S := fun w' => w'.cell? ⟨w.heap.size, 0, none⟩ = some (.int .i64 dev) ∧ w'.cell? ⟨w.heap.size, 1, none⟩ = some (.int .i64 inc) ∧ w'.cell? ⟨w.heap.size, 2, none⟩ = some (.int .i64 seq)) (by kernel_rfl) (hS0 _ hB1) (fun hHeld => ?_)
  first | (refine tR (i := 0) rfl rfl ?_) | (refine tL (i := 0) (v := ?vb1) rfl ?hyb1 ?rb1; case hyb1 => (rintro w' hS; obtain ⟨hs0, hs1, hs2⟩ := hS; go_simp; try with_reducible rfl))
  try simp only [gA, gB, Act.put, gD, gE, gF]
  first | (refine tR (i := 4) rfl rfl ?_) | (refine tL (i := 4) (v := ?vb2) rfl ?hyb2 ?rb2; case hyb2 => (rintro w' hS; obtain ⟨hs0, hs1, hs2⟩ := hS; go_simp; try with_reducible rfl))
  try simp only [gA, gB, gC, Act.put, gD, gE, gF]
  refine wpAnyH_ready (rs := [1]) (by kernel_rfl) (by simp) ?_
  refine AllReadyH.cons (o := _) rfl (fun K hK => ?_) AllReadyH.nil
  go_simp
  go_at_call 73; (with_reducible refine (HO _ (ha1.below hB1)).mono ?_); rintro e w2 ⟨p, B, rs, rfl, hR, hx⟩; have hB1 := hB1.trans (hx.mono hB1.size); clear hx
  try dsimp only
  refine hK.out _ _ (hS0 _ hB1) (fun hHeld => ?_)
  clear hK K
  try simp only [gA, gB, gC, Act.put, gD, gE, gF]
  first | (refine tR (i := 2) rfl rfl ?_) | (refine tL (i := 2) (v := ?vb3) rfl ?hyb3 ?rb3; case hyb3 => (rintro w' hS; obtain ⟨hs0, hs1, hs2⟩ := hS; go_simp; try with_reducible rfl))
  try simp only [gA, gB, gC, Act.put, gD, gE, gF]
  first | (refine tR (i := 3) rfl rfl ?_) | (refine tL (i := 3) (v := ?vb4) rfl ?hyb4 ?rb4; case hyb4 => (rintro w' hS; obtain ⟨hs0, hs1, hs2⟩ := hS; go_simp; try with_reducible rfl))
  try simp only [gA, gB, gC, Act.put, gD, gE, gF]
  refine wpAnyH_ready (rs := [5]) (by kernel_rfl) (by simp) ?_
  refine AllReadyH.cons (o := _) rfl (fun K hK => ?_) AllReadyH.nil
  go_simp
  go_at_call 85; (with_reducible refine (HV _ p B rs (hR)).mono ?_); rintro e w3 ⟨rfl, hx⟩; have hB1 := hB1.trans (hx.mono hB1.size); clear hx
  try dsimp only
  refine hK.out _ _ (hS0 _ hB1) (fun hHeld => ?_)
  clear hK K
  try simp only [gA, gB, gC, Act.put, gD, gE, gF]
  first | (refine tR (i := 6) rfl rfl ?_) | (refine tL (i := 6) (v := ?vb5) rfl ?hyb5 ?rb5; case hyb5 => (rintro w' hS; obtain ⟨hs0, hs1, hs2⟩ := hS; go_simp; try with_reducible rfl))
  try simp only [gA, gB, gC, Act.put, gD, gE, gF]
  refine wpAnyH_done (by kernel_rfl) ?_ _
  go_wp2
  go_ret
  exact ⟨rfl, b1.trans (hB1.mono b1.size)⟩
end Go.Proofs.YtaodjnkjjmhecaaGreatDoor
namespace Go.Proofs.YtaodjnkjjmhecaaGreatDoor
open Go.RowKit
set_option linter.unusedVariables false
def PartI (w : World) (B : Slots) (rs : List EvR) (c E : List DotN) (f : KeyT → List DotN) : Slot → Prop
  | .ctx => NumsIs w (B .ctx) (fun b => B .ctx = some b) c
  | .kept => KeptIs w (B .kept) rs
  | .dead => SetIs w (B .dead) E
  | .keys => KeysIs w (B .keys) B
  | .of k => SetIs w (B (.of k)) (f k)
def cellsB (B : Slots) : List Value := [.map (B .ctx), .map (B .kept), .map (B .dead), .map (B .keys)]
structure Parts (w : World) (p : Nat) (B : Slots) (rs : List EvR) (c E : List DotN) (f : KeyT → List DotN) : Prop where
  obj : ObjAt w p (cellsB B)
  part : ∀ i, PartI w B rs c E f i
  inj : ∀ i j b, B i = some b → B j = some b → i = j
  over : OversAt w rs
theorem Real.parts {w : World} {p : Nat} {B : Slots} {rs : List EvR} {m : MapN} (h : Real w p B rs m) : Parts w p B rs m.ctx m.dead (dotsK m.kept m.dead) :=
  ⟨h.obj, fun i => by cases i <;> first | exact h.nums | exact h.kept | exact h.dead | exact h.keys | exact h.of _, h.inj, h.over⟩
theorem Parts.real {w : World} {p : Nat} {B : Slots} {rs : List EvR} {m : MapN} {f : KeyT → List DotN} (h : Parts w p B rs m.ctx m.dead f) (hf : ∀ k, f k = dotsK m.kept m.dead k) (hn : ∀ k, dotsK m.kept m.dead k = [] → B (.of k) = none) (hrs : rs.map (·.e) = m.kept) (hok : OkMs m) (hfew : m.kept.length ≤ 2048) (hl : ∀ e ∈ m.kept, lightE e = true) : Real w p B rs m :=
  ⟨h.obj, h.part .ctx, h.part .kept, h.part .dead, h.part .keys, fun k => hf k ▸ h.part (.of k), hn, h.inj, h.over, hrs, hok, hfew, hl⟩
theorem Parts.blk {w : World} {p : Nat} {B : Slots} {rs : List EvR} {c E : List DotN} {f : KeyT → List DotN} (h : Parts w p B rs c E f) (i : Slot) (b : Nat) (e : B i = some b) : MapBlk w b := by
  have hp := h.part i
  cases i with
  | ctx => exact NumsIs.blk hp b e
  | kept => exact KeptIs.blk hp b e
  | dead => exact SetIs.blk hp b e
  | keys => exact KeysIs.blk hp b e
  | of k => exact SetIs.blk hp b e
theorem Parts.not_obj {w : World} {p : Nat} {B : Slots} {rs : List EvR} {c E : List DotN} {f : KeyT → List DotN} (h : Parts w p B rs c E f) (i : Slot) : B i ≠ some p := fun e => (h.blk i p e).not_obj h.obj rfl
theorem Parts.over_apart {w : World} {p : Nat} {B : Slots} {rs : List EvR} {c E : List DotN} {f : KeyT → List DotN} (h : Parts w p B rs c E f) : ∀ r ∈ rs, ∀ k, At (overA r) k → ¬ OwnB p B k := by
  intro r hr k hk hc
  obtain ⟨i, n, hv⟩ := over_cell (h.over r hr) k hk
  rcases hc with rfl | ⟨j, e⟩
  · obtain ⟨e, h1⟩ := h.obj.heap
    unfold cellsB at h1
    simp only [World.cell?, h1] at hv
    rcases i with _ | _ | _ | _ | i <;> simp at hv
  · exact (h.blk j k e).not_cell _ _ hv
theorem Parts.own_lt {w : World} {p : Nat} {B : Slots} {rs : List EvR} {c E : List DotN} {f : KeyT → List DotN} (h : Parts w p B rs c E f) : ∀ k, OwnB p B k → k < w.heap.size := by
  rintro k (rfl | ⟨i, e⟩)
  · exact h.obj.lt
  · exact (h.blk i k e).lt
theorem PartI.keeps {G : Nat → Prop} {w w' : World} {B : Slots} {rs : List EvR} {c E : List DotN} {f : KeyT → List DotN} {i : Slot} (h : PartI w B rs c E f i) (hk : Keeps G w w') (hd : ∀ b, B i = some b → ¬ G b) : PartI w' B rs c E f i := by
  cases i with
  | ctx => exact NumsIs.keeps h hk fun b e => hd b e
  | kept => exact KeptIs.keeps h hk hd
  | dead => exact SetIs.keeps h hk hd
  | keys => exact KeysIs.keeps h hk hd
  | of k => exact SetIs.keeps h hk hd
theorem Parts.keeps {G : Nat → Prop} {w w' : World} {p : Nat} {B : Slots} {rs : List EvR} {c E : List DotN} {f : KeyT → List DotN} (h : Parts w p B rs c E f) (hk : Keeps G w w') (hp : ∀ k, OwnB p B k → ¬ G k) (hR : ∀ r ∈ rs, ∀ k, At (overA r) k → ¬ G k) : Parts w' p B rs c E f :=
  ⟨h.obj.keeps hk (hp p (.inl rfl)), fun i => (h.part i).keeps hk fun b e => hp b (.inr ⟨i, e⟩), h.inj, fun r hr => over_keeps (h.over r hr) hk (hR r hr)⟩
theorem Parts.below {w w' : World} {p : Nat} {B : Slots} {rs : List EvR} {c E : List DotN} {f : KeyT → List DotN} (h : Parts w p B rs c E f) (hb : Below w.heap.size w w') : Parts w' p B rs c E f :=
  h.keeps (Keeps.new (F := fun _ => False) hb) (fun _ _ h => h) (fun _ _ _ _ h => h)
theorem Parts.congr {w : World} {p : Nat} {B : Slots} {rs : List EvR} {c E E' : List DotN} {f f' : KeyT → List DotN} (h : Parts w p B rs c E f) (hE : E.Perm E') (hf : ∀ k, (f k).Perm (f' k)) : Parts w p B rs c E' f' := by
  have hset : ∀ {o : Option Nat} {L L' : List DotN}, SetIs w o L → L.Perm L' → SetIs w o L' := by
    intro o L L' hs hp
    rcases hs with ⟨rfl, rfl⟩ | ⟨b, n, D, rfl, hm, hD⟩
    · exact .inl ⟨rfl, List.nil_perm.1 hp⟩
    · exact .inr ⟨b, n, D, rfl, hm, hD.perm hp⟩
  refine ⟨h.obj, fun i => ?_, h.inj, h.over⟩
  have hp := h.part i
  cases i with
  | ctx => exact hp
  | kept => exact hp
  | dead => exact hset hp hE
  | keys => exact hp
  | of k => exact hset hp (hf k)
theorem Parts.set {w w' : World} {p : Nat} {B B' : Slots} {rs rs' : List EvR} {c c' E E' : List DotN} {f : KeyT → List DotN} (h : Parts w p B rs c E f) (i : Slot) (hi : ∀ k, i ≠ .of k) (hB' : ∀ j, j ≠ i → B' j = B j) (hk : Keeps (fun k => k = p ∨ B i = some k) w w') (hobj : ObjAt w' p (cellsB B'))
    (hnew : ∀ b, B' i = some b → B i = some b ∨ w.heap.size ≤ b) (hrs : i ≠ .kept → rs' = rs) (hc : i ≠ .ctx → c' = c) (hE : i ≠ .dead → E' = E) (hp : PartI w' B' rs' c' E' f i) (ho : OversAt w' rs') : Parts w' p B' rs' c' E' f := by
  have hoth : ∀ j, j ≠ i → PartI w' B rs c E f j := fun j hj => (h.part j).keeps hk fun b e hc => by
    rcases hc with rfl | hc
    · exact h.not_obj j e
    · exact hj (h.inj j i b e hc)
  refine ⟨hobj, fun j => ?_, fun j l b e1 e2 => ?_, ho⟩
  · by_cases e : j = i
    · subst e
      exact hp
    · have h1 := hoth j e
      cases j with
      | ctx =>
        rw [show c' = c from hc (fun q => e q.symm)]
        show NumsIs w' (B' .ctx) (fun b => B' .ctx = some b) c
        rw [hB' _ e]
        exact h1
      | kept =>
        rw [show rs' = rs from hrs (fun q => e q.symm)]
        show KeptIs w' (B' .kept) rs
        rw [hB' _ e]
        exact h1
      | dead =>
        rw [show E' = E from hE (fun q => e q.symm)]
        show SetIs w' (B' .dead) E
        rw [hB' _ e]
        exact h1
      | keys =>
        show KeysIs w' (B' .keys) B'
        rw [hB' _ e]
        rcases h1 with ⟨h1, h2⟩ | ⟨b, n, D, h1, h2, h3⟩
        · exact .inl ⟨h1, fun k => (hB' _ (fun q => hi k q.symm)).trans (h2 k)⟩
        · exact .inr ⟨b, n, D, h1, h2, h3.congr fun k => hB' _ (fun q => hi k q.symm)⟩
      | of k =>
        show SetIs w' (B' (.of k)) (f k)
        rw [hB' _ e]
        exact h1
  · by_cases e3 : j = i
    · subst e3
      by_cases e4 : l = j
      · exact e4.symm
      · rw [hB' l e4] at e2
        rcases hnew b e1 with h1 | h1
        · exact h.inj j l b h1 e2
        · have := (h.blk l b e2).lt
          omega
    · rw [hB' j e3] at e1
      by_cases e4 : l = i
      · subst e4
        rcases hnew b e2 with h1 | h1
        · exact h.inj j l b e1 h1
        · have := (h.blk j b e1).lt
          omega
      · rw [hB' l e4] at e2
        exact h.inj j l b e1 e2
theorem Parts.setOf {w w' : World} {p : Nat} {B : Slots} {rs : List EvR} {c E : List DotN} {f f' : KeyT → List DotN} (h : Parts w p B rs c E f) (k : KeyT) (b : Nat) (hb : B (.of k) = some b) {F : Nat → Prop} (hk : Keeps F w w') (hF : ∀ x, F x → x = b ∨ (¬ OwnB p B x ∧ ∀ r ∈ rs, ¬ At (overA r) x)) (hf : ∀ k', k' ≠ k → f' k' = f k') (hs : SetIs w' (some b) (f' k)) : Parts w' p B rs c E f' := by
  have hpb : p ≠ b := fun e => h.not_obj (.of k) (e ▸ hb)
  have hoth : ∀ j, j ≠ .of k → PartI w' B rs c E f j := fun j hj => (h.part j).keeps hk fun b' e hc => by
    rcases hF b' hc with rfl | hc
    · exact hj (h.inj j _ b' e hb)
    · exact hc.1 (.inr ⟨j, e⟩)
  refine ⟨h.obj.keeps hk (fun hc => (hF p hc).elim hpb fun c => c.1 (.inl rfl)), fun j => ?_, h.inj, fun r hr => over_keeps (h.over r hr) hk fun x hx hc => ?_⟩
  rotate_left
  · rcases hF x hc with rfl | hc
    · exact h.over_apart r hr x hx (.inr ⟨.of k, hb⟩)
    · exact hc.2 r hr hx
  cases j with
  | ctx => exact hoth .ctx (fun q => by cases q)
  | kept => exact hoth .kept (fun q => by cases q)
  | dead => exact hoth .dead (fun q => by cases q)
  | keys => exact hoth .keys (fun q => by cases q)
  | of k' =>
    show SetIs w' (B (.of k')) (f' k')
    by_cases e : k' = k
    · subst e
      rw [hb]
      exact hs
    · have h1 := hoth (.of k') (fun q => by cases q; exact e rfl)
      rw [hf k' e]
      exact h1
theorem Parts.setKey {w w' : World} {p : Nat} {B B' : Slots} {rs : List EvR} {c E : List DotN} {f f' : KeyT → List DotN} (h : Parts w p B rs c E f) (k : KeyT) (hB' : ∀ j, j ≠ .keys → j ≠ .of k → B' j = B j) (hk : Keeps (fun x => x = p ∨ B .keys = some x) w w') (hobj : ObjAt w' p (cellsB B'))
    (hnew : ∀ b, B' .keys = some b → B .keys = some b ∨ w.heap.size ≤ b) (hof : ∀ b, B' (.of k) = some b → b < w.heap.size ∧ ∀ j, j ≠ .of k → B j ≠ some b) (hkeys : KeysIs w' (B' .keys) B') (hf : ∀ k', k' ≠ k → f' k' = f k') (hs : SetIs w' (B' (.of k)) (f' k)) : Parts w' p B' rs c E f' := by
  have hoth : ∀ j, j ≠ .keys → PartI w' B rs c E f j := fun j hj => (h.part j).keeps hk fun b e hc => by
    rcases hc with rfl | hc
    · exact h.not_obj j e
    · exact hj (h.inj j _ b e hc)
  have ho : OversAt w' rs := fun r hr => over_keeps (h.over r hr) hk fun x hx hc => h.over_apart r hr x hx (hc.imp id fun hc => ⟨_, hc⟩)
  refine ⟨hobj, fun j => ?_, fun j l b e1 e2 => ?_, ho⟩
  · cases j with
    | ctx =>
      have h1 := hoth .ctx (fun q => by cases q)
      show NumsIs w' (B' .ctx) (fun b => B' .ctx = some b) c
      rw [hB' _ (fun q => by cases q) (fun q => by cases q)]
      exact h1
    | kept =>
      have h1 := hoth .kept (fun q => by cases q)
      show KeptIs w' (B' .kept) rs
      rw [hB' _ (fun q => by cases q) (fun q => by cases q)]
      exact h1
    | dead =>
      have h1 := hoth .dead (fun q => by cases q)
      show SetIs w' (B' .dead) E
      rw [hB' _ (fun q => by cases q) (fun q => by cases q)]
      exact h1
    | keys => exact hkeys
    | of k' =>
      show SetIs w' (B' (.of k')) (f' k')
      by_cases e : k' = k
      · subst e
        exact hs
      · have h1 := hoth (.of k') (fun q => by cases q)
        rw [hf k' e, hB' _ (fun q => by cases q) (fun q => by cases q; exact e rfl)]
        exact h1
  · have main : ∀ j l, B' j = some b → B' l = some b → j ≠ l → j ≠ .of k → False := by
      intro j l e1 e2 hne hjk
      by_cases hj : j = .keys
      · subst hj
        rcases hnew b e1 with h1 | h1
        · by_cases hl : l = .of k
          · subst hl
            exact (hof b e2).2 .keys (fun q => by cases q) h1
          · rw [hB' l (fun q => hne q.symm) hl] at e2
            exact hne (h.inj _ _ b h1 e2)
        · by_cases hl : l = .of k
          · subst hl
            have := (hof b e2).1
            omega
          · rw [hB' l (fun q => hne q.symm) hl] at e2
            have := (h.blk l b e2).lt
            omega
      · rw [hB' j hj hjk] at e1
        by_cases hl : l = .of k
        · subst hl
          exact (hof b e2).2 j hjk e1
        · by_cases hl2 : l = .keys
          · subst hl2
            rcases hnew b e2 with h1 | h1
            · exact hne (h.inj _ _ b e1 h1)
            · have := (h.blk j b e1).lt
              omega
          · rw [hB' l hl2 hl] at e2
            exact hne (h.inj _ _ b e1 e2)
    by_cases e : j = l
    · exact e
    · exfalso
      by_cases hj : j = .of k
      · exact main l j e2 e1 (fun q => e q.symm) (fun q => e (hj.trans q.symm))
      · exact main j l e1 e2 e hj
end Go.Proofs.YtaodjnkjjmhecaaGreatDoor
namespace Go.Proofs.YtaodjnkjjmhecaaGreatDoor
open Go.RowKit
set_option linter.unusedVariables false
set_option linter.unusedSimpArgs false
theorem exec_len {P : Program} {w : World} {o : Oper} {a : Act} (m : Operand) (t : TypeId) (hop : o.op = Op.call { callee := Callee.builtin Builtin.len, args := #[m], argTypes := #[t] }) (mv : Option Nat) (hm : a.eval m = .map mv) {v : Value} (hr : (Builtin.len_ #[t] o.type #[.map mv]).run P w = .ok v w) :
    (execOp a.eval o).run P w = .ok (.value v) w := by
  simp [execOp, hop, resolve, invoke, builtin, hm, hr, Result.andThen]
theorem exec_field {P : Program} {w : World} {o : Oper} {a : Act} (x : Operand) (t : TypeId) (i : Nat) (hop : o.op = Op.field t x i) (u : Value) (hx : a.eval x = u) {v : Value} (hr : (Instr.field t u i).run P w = .ok v w) :
    (execOp a.eval o).run P w = .ok (.value v) w := by
  simp [execOp, hop, hx, hr, Result.andThen]
def keyO (o : Option EvR) : KeyT := match o with
  | none => ([], [], [])
  | some r => kOf r.e.item
theorem field_key (o : Option EvR) (w : World) : (Instr.field 43 (.agg (encO o).toArray) 3).run Tryz.prog w = .ok (.agg #[.string (str (keyO o).1), .string (str (keyO o).2.1), .string (str (keyO o).2.2)]) w := by
  cases o with
  | none => kernel_rfl
  | some r => kernel_rfl
theorem zeroEv (w : World) : (zeroValue 43).run Tryz.prog w = .ok (.agg (encO none).toArray) w := by kernel_rfl
theorem zeroSet (w : World) : (zeroValue 103).run Tryz.prog w = .ok (.map none) w := by kernel_rfl
theorem kept_look {w : World} {mv : Option Nat} {rs : List EvR} (h : KeptIs w mv rs) {x : DotN} (hx : FitD x) :
    (Instr.lookup 102 (.map mv) (.agg #[.int .i64 x.dev, .int .i64 x.inc, .int .i64 x.seq]) false).run Tryz.prog w = .ok (.agg (encO (lookR rs x)).toArray) w ∧
    (Instr.lookup 102 (.map mv) (.agg #[.int .i64 x.dev, .int .i64 x.inc, .int .i64 x.seq]) true).run Tryz.prog w = .ok (.tuple #[.agg (encO (lookR rs x)).toArray, .bool (lookR rs x).isSome]) w := by
  rcases h with ⟨rfl, rfl⟩ | ⟨b, n, D, rfl, hm, hD⟩
  · exact ⟨Go.Maps.look_nil false keyedDot Tryz.underlying102 (zeroEv _) (key_dot hx), Go.Maps.look_nil true keyedDot Tryz.underlying102 (zeroEv _) (key_dot hx)⟩
  · have h1 := held_look hm keyedDot Tryz.underlying102 (zeroEv w) (key_dot hx) (hD.at_ x hx)
    have e1 : ((lookR rs x).map fun r => Value.agg (encE r).toArray).getD (.agg (encO none).toArray) = .agg (encO (lookR rs x)).toArray := by cases lookR rs x <;> rfl
    have e2 : ((lookR rs x).map fun r => Value.agg (encE r).toArray).isSome = (lookR rs x).isSome := by cases lookR rs x <;> rfl
    rw [e1, e2] at h1
    exact h1
theorem keys_look {w : World} {mv : Option Nat} {B : Slots} (h : KeysIs w mv B) {a b c : List UInt8} (hk : fitK (a, b, c)) :
    (Instr.lookup 104 (.map mv) (.agg #[.string (str a), .string (str b), .string (str c)]) false).run Tryz.prog w = .ok (.map (B (.of (a, b, c)))) w ∧
    (Instr.lookup 104 (.map mv) (.agg #[.string (str a), .string (str b), .string (str c)]) true).run Tryz.prog w = .ok (.tuple #[.map (B (.of (a, b, c))), .bool (B (.of (a, b, c))).isSome]) w := by
  have hkey := key_key hk.1 hk.2.1 hk.2.2
  rcases h with ⟨rfl, h0⟩ | ⟨q, n, D, rfl, hm, hD⟩
  · rw [h0]
    exact ⟨Go.Maps.look_nil false keyedKey Tryz.underlying104 (zeroSet _) hkey, Go.Maps.look_nil true keyedKey Tryz.underlying104 (zeroSet _) hkey⟩
  · have h1 := held_look hm keyedKey Tryz.underlying104 (zeroSet w) hkey (hD.at_ (a, b, c) hk)
    have e1 : ((B (.of (a, b, c))).map fun q => Value.map (some q)).getD (.map none) = .map (B (.of (a, b, c))) := by cases B (.of (a, b, c)) <;> rfl
    have e2 : ((B (.of (a, b, c))).map fun q => Value.map (some q)).isSome = (B (.of (a, b, c))).isSome := by cases B (.of (a, b, c)) <;> rfl
    rw [e1, e2] at h1
    exact h1
theorem SetIs.len {w : World} {o : Option Nat} {E : List DotN} (h : SetIs w o E) (ty : TypeId) :
    (Builtin.len_ #[103] ty #[.map o]).run Tryz.prog w = .ok (.int .i64 (E.length : Int)) w := by
  rcases h with ⟨rfl, rfl⟩ | ⟨b, n, D, rfl, hm, hD⟩
  · exact Go.Maps.len_nil Tryz.underlying103 ty
  · have h1 := hm.len Tryz.underlying103 ty
    rw [hD.size] at h1
    exact h1
theorem SetIs.mapC {w : World} {o : Option Nat} {E : List DotN} (h : SetIs w o E) : ∃ D, MapC w 35 unitElem o D ∧ SetD D E ∧ Go.Maps.Tidy D := by
  rcases h with ⟨rfl, rfl⟩ | ⟨b, n, D, rfl, hm, hD⟩
  · exact ⟨_, .inl ⟨rfl, rfl⟩, SetD.empty, ⟨[], rfl, List.Pairwise.nil⟩⟩
  · exact ⟨D, .inr ⟨b, n, rfl, hm⟩, hD, hm.tidy keyedDot⟩
theorem MapC.below {H : Type} {w w' : World} {K : TypeId} {R : Value → Option (DataW H × List MemPlace)} {mv : Option Nat} {D : DataW H} (h : MapC w K R mv D) (hb : Below w.heap.size w w') : MapC w' K R mv D := by
  rcases h with h | ⟨b, n, rfl, hm⟩
  · exact .inl h
  · exact .inr ⟨b, n, rfl, (Keeps.new (F := fun _ => False) hb).grownBy (fun h => h) hm⟩
theorem SetD.more {D : DataW Unit} {E : List DotN} (h : SetD D E) (hT : Go.Maps.Tidy D) (hE : SortedD E) {x : DotN} (hx : FitD x) : SetD (D.put (keyD x) (.agg [])) (sortD (E ++ [x])) := by
  have hnd := sortedD_nodup hE
  have hns := sortedD_nodup (sortD_sorted (E ++ [x]))
  by_cases hm : x ∈ E
  · refine (h.again hT hx hm).perm ((List.perm_ext_iff_of_nodup hnd hns).2 fun y => ?_)
    rw [sortD_mem, List.mem_append, List.mem_singleton]
    exact ⟨.inl, fun c => c.elim id fun c => c ▸ hm⟩
  · refine (h.put hT hx hm).perm ((List.perm_ext_iff_of_nodup (List.nodup_cons.2 ⟨hm, hnd⟩) hns).2 fun y => ?_)
    rw [sortD_mem, List.mem_append, List.mem_singleton, List.mem_cons]
    exact Or.comm
set_option maxRecDepth 100000 in
set_option maxHeartbeats 4000000 in
theorem killP {w : World} {p : Nat} {B : Slots} {rs : List EvR} {m : MapN} (h : Real w p B rs m) (x : DotN) (hr : rightD x = true) (hn : m.dead.length ≤ 1000000) :
    Calls Tryz.prog 71 #[.pointer (some ⟨p, 0, none⟩), .agg #[.int .i64 x.dev, .int .i64 x.inc, .int .i64 x.seq]] w fun e w' => e = .returned (.tuple #[]) ∧ ∃ B', Parts w' p B' rs m.ctx (sortD (m.dead ++ [x])) (fun k => (dotsK m.kept m.dead k).filter fun y => !sameD y x) ∧ (∀ k, (dotsK m.kept m.dead k).filter (fun y => !sameD y x) = [] → B' (.of k) = none) ∧
      Keeps (OwnB p B) w w' ∧ ∀ i b, B' i = some b → (∃ j, B j = some b) ∨ w.heap.size ≤ b := by
  have hx := right_fitD hr
  have hP := h.parts
  obtain ⟨D, hM, hD, hT⟩ := h.dead.mapC
  have hDm := hD.more hT h.ok.dead hx
  have hsz := hD.size
  have hnd := fun k => dotsK_nodup h.ok.ok.kept m.dead k
  have hsm := h.nothing
  have hko : fitK (keyO (lookR rs x)) := by
    cases e : lookR rs x with
    | none => exact ⟨Nat.zero_le _, Nat.zero_le _, Nat.zero_le _⟩
    | some r => exact light_fitK (h.light r.e (h.rs ▸ List.mem_map.2 ⟨r, (lookR_some e).1, rfl⟩))
  have hout : ∀ k, k ≠ keyO (lookR rs x) → (dotsK m.kept m.dead k).filter (fun y => !sameD y x) = dotsK m.kept m.dead k := by
    intro k hk
    refine dotsK_out fun hm => hk ?_
    obtain ⟨e, he, hd, ha, hke⟩ := mem_dotsK.1 hm
    rw [← h.rs] at he
    obtain ⟨r, hr1, rfl⟩ := List.mem_map.1 he
    have := lookR_mem h.sorted hr1
    rw [hd] at this
    rw [this]
    exact hke.symm
  have hkl := fun (w' : World) (hk : KeptIs w' (B .kept) rs) => (kept_look hk hx).1
  have hE0 : m.dead.length ≤ 1000000 := hn
  generalize dotsK m.kept m.dead = f at *
  obtain ⟨o, ho⟩ : ∃ o, lookR rs x = o := ⟨_, rfl⟩
  have hfl := fun v => field_key o v
  have hLK := fun (w' : World) (mv : Option Nat) (hk : KeptIs w' mv rs) => (kept_look hk hx).1
  rw [ho] at hko hout hLK
  clear h hkl ho
  obtain ⟨A, hA⟩ : ∃ A, (encO o).toArray = A := ⟨_, rfl⟩
  obtain ⟨K, hK⟩ : ∃ K : KeyT, keyO o = K := ⟨_, rfl⟩
  simp only [hA, hK] at hLK hfl hko hout
  clear hA hK o
  obtain ⟨k1, k2, k3⟩ := K
  dsimp only at hfl
  obtain ⟨dev, inc, seq⟩ := x
  dsimp only at *
  have hlp := hP.obj.lt
  have hlb := fun b (e : B .dead = some b) => (hP.blk .dead b e).lt
  obtain ⟨bd, hbd⟩ : ∃ bd, w.heap.size = bd := ⟨_, rfl⟩
  have o1 := ObjAt.new w #[.int .i64 dev, .int .i64 inc, .int .i64 seq] 35
  have b1 := below_alloc w (.cells #[.int .i64 dev, .int .i64 inc, .int .i64 seq] 35)
  have hP1 := hP.below b1
  have hM1 := hM.below b1
  rw [hbd] at o1 hlp
  generalize hw1 : w.alloc (.cells #[.int .i64 dev, .int .i64 inc, .int .i64 seq] 35) = w1 at *
  have l1 := o1.lt
  have hS0 : ∀ v, Below w1.heap.size w1 v → v.cell? ⟨bd, 0, none⟩ = some (.int .i64 dev) ∧ v.cell? ⟨bd, 1, none⟩ = some (.int .i64 inc) ∧ v.cell? ⟨bd, 2, none⟩ = some (.int .i64 seq) := fun v hv => ⟨(o1.below hv l1).cell 0 rfl, (o1.below hv l1).cell 1 rfl, (o1.below hv l1).cell 2 rfl⟩
  have HP := fun v (hv : Below w1.heap.size w1 v) => putSetC p 2 (cellsB B) (B .dead) D ⟨dev, inc, seq⟩ v hx (hP1.below hv).obj rfl (hM1.below hv) (by omega)
  dsimp only at HP
  have hb : Below w1.heap.size w1 w1.drew := (Below.refl _ _).drew
  go_enter Tryz.func71, Tryz.ntmps71
  go_wp2_with fail
  refine wp_region_held_drew (S := fun w' => w'.cell? ⟨bd, 0, none⟩ = some (.int .i64 dev) ∧ w'.cell? ⟨bd, 1, none⟩ = some (.int .i64 inc) ∧ w'.cell? ⟨bd, 2, none⟩ = some (.int .i64 seq)) (by kernel_rfl) (hS0 _ hb) (fun hHeld => ?_)
  first | (refine tR (i := 0) rfl rfl ?_) | (refine tL (i := 0) (v := ?vb1) rfl ?hyb1 ?rb1; case hyb1 => (rintro w' hS; obtain ⟨hs0, hs1, hs2⟩ := hS; go_simp; try with_reducible rfl))
  try simp only [gA, gB, Act.put, gD, gE, gF]
  first | (refine tR (i := 1) rfl rfl ?_) | (refine tL (i := 1) (v := ?vb2) rfl ?hyb2 ?rb2; case hyb2 => (rintro w' hS; obtain ⟨hs0, hs1, hs2⟩ := hS; go_simp; try with_reducible rfl))
  try simp only [gA, gB, gC, Act.put, gD, gE, gF]
  first | (refine tR (i := 2) rfl rfl ?_) | (refine tL (i := 2) (v := ?vb3) rfl ?hyb3 ?rb3; case hyb3 => (rintro w' hS; obtain ⟨hs0, hs1, hs2⟩ := hS; go_simp; try with_reducible rfl))
  try simp only [gA, gB, gC, Act.put, gD, gE, gF]
  first | (refine tR (i := 3) rfl rfl ?_) | (refine tL (i := 3) (v := ?vb4) rfl ?hyb4 ?rb4; case hyb4 => (rintro w' hS; obtain ⟨hs0, hs1, hs2⟩ := hS; go_simp; try with_reducible rfl))
  try simp only [gA, gB, gC, Act.put, gD, gE, gF]
  first | (refine tR (i := 4) rfl rfl ?_) | (refine tL (i := 4) (v := ?vb5) rfl ?hyb5 ?rb5; case hyb5 => (rintro w' hS; obtain ⟨hs0, hs1, hs2⟩ := hS; go_simp; try with_reducible rfl))
  try simp only [gA, gB, gC, Act.put, gD, gE, gF]
  refine wpAnyH_ready (rs := [5]) (by kernel_rfl) (by simp) ?_
  refine AllReadyH.cons (o := _) rfl (fun K hK => ?_) AllReadyH.nil
  go_simp
  go_at_call 117; (with_reducible refine (HP _ hb).mono ?_); rintro e w2 ⟨rfl, bs, ns, q2, hs2m, hk2, hbs⟩; have hbs := hbs.imp id And.right; have o2 := (o1.below hb l1).keeps hk2 (fun c => c.elim (fun c => absurd c.symm (Nat.ne_of_lt hlp)) (fun c => absurd (hlb _ c) (by omega))); have hS2x : w2.cell? ⟨bd, 0, none⟩ = some (.int .i64 dev) ∧ w2.cell? ⟨bd, 1, none⟩ = some (.int .i64 inc) ∧ w2.cell? ⟨bd, 2, none⟩ = some (.int .i64 seq) := ⟨o2.cell 0 rfl, o2.cell 1 rfl, o2.cell 2 rfl⟩
  try dsimp only
  refine hK.out _ _ (hS2x) (fun hHeld => ?_)
  clear hK K
  try simp only [gA, gB, gC, Act.put, gD, gE, gF]
  refine wpAnyH_done (by kernel_rfl) ?_ _
  obtain ⟨B1, hB1d, hB1o⟩ := slots_put B .dead (some bs)
  have hb12 : Below w1.heap.size w1 w1.drew := (Below.refl _ _).drew
  have hPd := hP1.below hb12
  have hP2 : Parts w2 p B1 rs m.ctx (sortD (m.dead ++ [⟨dev, inc, seq⟩])) f := by
    refine hPd.set .dead (fun k q => by cases q) hB1o hk2 ?_ (fun b e => ?_) (fun _ => rfl) (fun _ => rfl) (fun c => absurd rfl c) ?_ (fun r hr => over_keeps (hPd.over r hr) hk2 fun k hk hc => hPd.over_apart r hr k hk (hc.imp id fun c => ⟨_, c⟩))
    · have e : cellsB B1 = (cellsB B).set 2 (.map (some bs)) := by
        unfold cellsB
        rw [hB1d, hB1o .ctx (fun q => by cases q), hB1o .kept (fun q => by cases q), hB1o .keys (fun q => by cases q)]
        rfl
      rw [e]
      exact q2
    · rw [hB1d] at e
      cases e
      exact hbs
    · show SetIs w2 (B1 .dead) _
      rw [hB1d]
      exact .inr ⟨bs, ns, _, rfl, hs2m, hDm⟩
  have hk02 : Keeps (OwnB p B) w w2 := ((Keeps.new b1).trans (Keeps.new (F := OwnB p B) (hb12)) (fun _ _ h => h)).trans hk2 fun k _ hc => hc.imp id fun c => ⟨_, c⟩
  have hown2 : ∀ i b, B1 i = some b → (∃ j, B j = some b) ∨ bd ≤ b := by
    intro i b e
    by_cases q : i = .dead
    · subst q
      rw [hB1d] at e
      cases e
      rcases hbs with c | c
      · exact .inl ⟨_, c⟩
      · exact .inr (by have := b1.size; have c2 : w1.heap.size ≤ bs := c; omega)
    · rw [hB1o i q] at e
      exact .inl ⟨i, e⟩
  have hof2 : ∀ k, B1 (.of k) = B (.of k) := fun k => hB1o _ (fun q => by cases q)
  have hdw : w.heap.size ≤ w2.heap.size := hk02.size
  clear hk2 q2 hs2m hPd hP1 hM1 hM hDm hD hT HP hS0 o1 hb hS2x hB1d hB1o hP
  have l2 := o2.lt
  have hS2 : ∀ v, Below w2.heap.size w2 v → v.cell? ⟨p, 1, none⟩ = some (.map (B1 .kept)) ∧ v.cell? ⟨bd, 0, none⟩ = some (.int .i64 dev) ∧ v.cell? ⟨bd, 1, none⟩ = some (.int .i64 inc) ∧ v.cell? ⟨bd, 2, none⟩ = some (.int .i64 seq) ∧ KeptIs v (B1 .kept) rs := fun v hv => ⟨(hP2.below hv).obj.cell 1 rfl, (o2.below hv l2).cell 0 rfl, (o2.below hv l2).cell 1 rfl, (o2.below hv l2).cell 2 rfl, (hP2.below hv).part .kept⟩
  have c7 : Below w2.heap.size w2 (w2.drew.alloc (.cells #[.string ⟨#[]⟩, .string ⟨#[]⟩, .string ⟨#[]⟩] 39)) := (Below.refl _ _).drew.trans ((below_alloc w2.drew (.cells #[.string ⟨#[]⟩, .string ⟨#[]⟩, .string ⟨#[]⟩] 39)).mono (Nat.le_refl _))
  have o7 := ObjAt.new w2.drew #[.string ⟨#[]⟩, .string ⟨#[]⟩, .string ⟨#[]⟩] 39
  obtain ⟨bk, hbk⟩ : ∃ bk, w2.drew.heap.size = bk := ⟨_, rfl⟩
  rw [hbk] at o7
  have hk7 : w2.heap.size ≤ bk := Nat.le_of_eq hbk
  have c8 := ((c7.setCell (p := ⟨bk, 0, none⟩) hk7 (.string (str k1))).setCell (p := ⟨bk, 1, none⟩) hk7 (.string (str k2))).setCell (p := ⟨bk, 2, none⟩) hk7 (.string (str k3))
  have p7 := ObjAt.new w2 #[.string ⟨#[]⟩, .string ⟨#[]⟩, .string ⟨#[]⟩] 39
  rw [show w2.heap.size = bk from hbk] at p7
  have z0 := p7.cell 0 rfl; have z1 := p7.cell 1 rfl; have z2 := p7.cell 2 rfl; have g0 := p7.free 0; have g1 := p7.free 1; have g2 := p7.free 2
  go_wp2_with fail
  refine wp_region_held_drew (S := fun w' => w'.cell? ⟨p, 1, none⟩ = some (.map (B1 .kept)) ∧ w'.cell? ⟨bd, 0, none⟩ = some (.int .i64 dev) ∧ w'.cell? ⟨bd, 1, none⟩ = some (.int .i64 inc) ∧ w'.cell? ⟨bd, 2, none⟩ = some (.int .i64 seq) ∧ KeptIs w' (B1 .kept) rs) (by kernel_rfl) (hS2 _ (Below.refl _ _).drew) (fun hHeld => ?_)
  first | (refine tR (i := 0) rfl rfl ?_) | (refine tL (i := 0) (v := ?vb6) rfl ?hyb6 ?rb6; case hyb6 => (rintro w' hS; obtain ⟨hs0, hs1, hs2, hs3, hs4⟩ := hS; go_simp; try with_reducible rfl))
  try simp only [gA, gB, Act.put, gD, gE, gF]
  first | (refine tR (i := 1) rfl rfl ?_) | (refine tL (i := 1) (v := ?vb7) rfl ?hyb7 ?rb7; case hyb7 => (rintro w' hS; obtain ⟨hs0, hs1, hs2, hs3, hs4⟩ := hS; go_simp; try with_reducible rfl))
  try simp only [gA, gB, gC, Act.put, gD, gE, gF]
  first | (refine tR (i := 2) rfl rfl ?_) | (refine tL (i := 2) (v := ?vb8) rfl ?hyb8 ?rb8; case hyb8 => (rintro w' hS; obtain ⟨hs0, hs1, hs2, hs3, hs4⟩ := hS; go_simp; try with_reducible rfl))
  try simp only [gA, gB, gC, Act.put, gD, gE, gF]
  first | (refine tR (i := 3) rfl rfl ?_) | (refine tL (i := 3) (v := ?vb9) rfl ?hyb9 ?rb9; case hyb9 => (rintro w' hS; obtain ⟨hs0, hs1, hs2, hs3, hs4⟩ := hS; go_simp; try with_reducible rfl))
  try simp only [gA, gB, gC, Act.put, gD, gE, gF]
  first | (refine tR (i := 4) rfl rfl ?_) | (refine tL (i := 4) (v := ?vb10) rfl ?hyb10 ?rb10; case hyb10 => (rintro w' hS; obtain ⟨hs0, hs1, hs2, hs3, hs4⟩ := hS; go_simp; try with_reducible rfl))
  try simp only [gA, gB, gC, Act.put, gD, gE, gF]
  refine wpAnyH_take (i := 5) (v := .agg A) rfl (by kernel_rfl) (by kernel_rfl) (by kernel_rfl) (fun _ _ _ h => h) (Or.inl ⟨by rfl, fun w' hS => by obtain ⟨hs0, hs1, hs2, hs3, hs4⟩ := hS; exact exec_look (.tmp 14) (.tmp 15) 102 false rfl _ rfl _ rfl (hLK w' _ hs4)⟩) (by assumption) ?_
  try simp only [gA, gB, gC, Act.put, gD, gE, gF]
  refine wpAnyH_take (i := 6) (v := .agg #[.string (str k1), .string (str k2), .string (str k3)]) rfl (by kernel_rfl) (by kernel_rfl) (by kernel_rfl) (fun _ _ _ h => h) (Or.inl ⟨by rfl, fun w' hS => by exact exec_field (.tmp 16) 43 3 rfl _ rfl (hfl w')⟩) (by assumption) ?_
  try simp only [gA, gB, gC, Act.put, gD, gE, gF]
  refine wpAnyH_ready (rs := [7]) (by kernel_rfl) (by simp) ?_
  refine AllReadyH.cons (o := _) rfl (fun K hK => ?_) AllReadyH.nil
  go_simp
  skip
  try dsimp only
  refine hK.out _ _ (hS2 _ c7) (fun hHeld => ?_)
  clear hK K
  try simp only [gA, gB, gC, Act.put, gD, gE, gF]
  refine wpAnyH_ready (rs := [8]) (by kernel_rfl) (by simp) ?_
  refine AllReadyH.cons (o := _) rfl (fun K hK => ?_) AllReadyH.nil
  go_simp
  skip
  try dsimp only
  refine hK.out _ _ (hS2 _ c8) (fun hHeld => ?_)
  clear hK K
  try simp only [gA, gB, gC, Act.put, gD, gE, gF]
  refine wpAnyH_done (by kernel_rfl) ?_ _
  have o8 : ObjAt ((((w2.alloc (.cells #[.string ⟨#[]⟩, .string ⟨#[]⟩, .string ⟨#[]⟩] 39)).setCell ⟨bk, 0, none⟩ (.string (str k1))).setCell ⟨bk, 1, none⟩ (.string (str k2))).setCell ⟨bk, 2, none⟩ (.string (str k3))).drew bk [.string (str k1), .string (str k2), .string (str k3)] := ((o7.set 0 (.string (str k1))).set 1 (.string (str k2))).set 2 (.string (str k3))
  have c9 : Below w2.heap.size w2 ((((w2.alloc (.cells #[.string ⟨#[]⟩, .string ⟨#[]⟩, .string ⟨#[]⟩] 39)).setCell ⟨bk, 0, none⟩ (.string (str k1))).setCell ⟨bk, 1, none⟩ (.string (str k2))).setCell ⟨bk, 2, none⟩ (.string (str k3))).drew := c8
  clear c8
  have P3 := hP2.below c9
  have d3 := o2.below c9 l2
  have hk03 := hk02.trans (Keeps.new (F := OwnB p B) c9) (fun _ _ h => h)
  have hd3 := c9.size
  clear hP2 o2 hS2 c7 o7 p7 z0 z1 z2 g0 g1 g2 hk02 hLK hfl l2 hHeld c9
  generalize ((((w2.alloc (.cells #[.string ⟨#[]⟩, .string ⟨#[]⟩, .string ⟨#[]⟩] 39)).setCell ⟨bk, 0, none⟩ (.string (str k1))).setCell ⟨bk, 1, none⟩ (.string (str k2))).setCell ⟨bk, 2, none⟩ (.string (str k3))).drew = w3 at *
  have l8 := o8.lt
  have l3 := d3.lt
  have hS3 : ∀ v, Below w3.heap.size w3 v → v.cell? ⟨p, 3, none⟩ = some (.map (B1 .keys)) ∧ v.cell? ⟨bd, 0, none⟩ = some (.int .i64 dev) ∧ v.cell? ⟨bd, 1, none⟩ = some (.int .i64 inc) ∧ v.cell? ⟨bd, 2, none⟩ = some (.int .i64 seq) ∧ v.cell? ⟨bk, 0, none⟩ = some (.string (str k1)) ∧ v.cell? ⟨bk, 1, none⟩ = some (.string (str k2)) ∧ v.cell? ⟨bk, 2, none⟩ = some (.string (str k3)) ∧ KeysIs v (B1 .keys) B1 := fun v hv => ⟨(P3.below hv).obj.cell 3 rfl, (d3.below hv l3).cell 0 rfl, (d3.below hv l3).cell 1 rfl, (d3.below hv l3).cell 2 rfl, (o8.below hv l8).cell 0 rfl, (o8.below hv l8).cell 1 rfl, (o8.below hv l8).cell 2 rfl, (P3.below hv).part .keys⟩
  have hP3of := P3.part (.of (k1, k2, k3))
  have hkn := hsm (k1, k2, k3)
  obtain ⟨ok, hok⟩ : ∃ ok, B1 (.of (k1, k2, k3)) = ok := ⟨_, rfl⟩
  have hkey := key_key hko.1 hko.2.1 hko.2.2
  have hdk := key_dot hx
  cases ok with
  | none =>
    have hf0 : f (k1, k2, k3) = [] := by
      rcases hP3of with ⟨-, e⟩ | ⟨b, n, D, e, -⟩
      · exact e
      · rw [hok] at e
        cases e
    have hfe : ∀ k, (f k).filter (fun y => !sameD y ⟨dev, inc, seq⟩) = f k := fun k => by
      by_cases e : k = (k1, k2, k3)
      · rw [e, hf0]
        rfl
      · exact hout k e
    have P3' : Parts w3 p B1 rs m.ctx (sortD (m.dead ++ [⟨dev, inc, seq⟩])) (fun k => (f k).filter fun y => !sameD y ⟨dev, inc, seq⟩) := P3.congr (List.Perm.refl _) fun k => by rw [hfe]
    have hnone : ∀ k, (f k).filter (fun y => !sameD y ⟨dev, inc, seq⟩) = [] → B1 (.of k) = none := fun k e => by
      rw [hfe] at e
      rw [hof2]
      exact hsm k e
    clear hP3of hout hnd hsm
    go_wp2_with fail
    refine wp_region_held_drew (S := fun w' => w'.cell? ⟨p, 3, none⟩ = some (.map (B1 .keys)) ∧ w'.cell? ⟨bd, 0, none⟩ = some (.int .i64 dev) ∧ w'.cell? ⟨bd, 1, none⟩ = some (.int .i64 inc) ∧ w'.cell? ⟨bd, 2, none⟩ = some (.int .i64 seq) ∧ w'.cell? ⟨bk, 0, none⟩ = some (.string (str k1)) ∧ w'.cell? ⟨bk, 1, none⟩ = some (.string (str k2)) ∧ w'.cell? ⟨bk, 2, none⟩ = some (.string (str k3)) ∧ KeysIs w' (B1 .keys) B1) (by kernel_rfl) (hS3 _ (Below.refl _ _).drew) (fun hHeld => ?_)
    first | (refine tR (i := 0) rfl rfl ?_) | (refine tL (i := 0) (v := ?vb11) rfl ?hyb11 ?rb11; case hyb11 => (rintro w' hS; obtain ⟨hs0, hs1, hs2, hs3, hs4, hs5, hs6, hs7⟩ := hS; go_simp; try with_reducible rfl))
    try simp only [gA, gB, Act.put, gD, gE, gF]
    first | (refine tR (i := 1) rfl rfl ?_) | (refine tL (i := 1) (v := ?vb12) rfl ?hyb12 ?rb12; case hyb12 => (rintro w' hS; obtain ⟨hs0, hs1, hs2, hs3, hs4, hs5, hs6, hs7⟩ := hS; go_simp; try with_reducible rfl))
    try simp only [gA, gB, gC, Act.put, gD, gE, gF]
    first | (refine tR (i := 2) rfl rfl ?_) | (refine tL (i := 2) (v := ?vb13) rfl ?hyb13 ?rb13; case hyb13 => (rintro w' hS; obtain ⟨hs0, hs1, hs2, hs3, hs4, hs5, hs6, hs7⟩ := hS; go_simp; try with_reducible rfl))
    try simp only [gA, gB, gC, Act.put, gD, gE, gF]
    first | (refine tR (i := 3) rfl rfl ?_) | (refine tL (i := 3) (v := ?vb14) rfl ?hyb14 ?rb14; case hyb14 => (rintro w' hS; obtain ⟨hs0, hs1, hs2, hs3, hs4, hs5, hs6, hs7⟩ := hS; go_simp; try with_reducible rfl))
    try simp only [gA, gB, gC, Act.put, gD, gE, gF]
    first | (refine tR (i := 4) rfl rfl ?_) | (refine tL (i := 4) (v := ?vb15) rfl ?hyb15 ?rb15; case hyb15 => (rintro w' hS; obtain ⟨hs0, hs1, hs2, hs3, hs4, hs5, hs6, hs7⟩ := hS; go_simp; try with_reducible rfl))
    try simp only [gA, gB, gC, Act.put, gD, gE, gF]
    refine wpAnyH_take (i := 5) (v := .map none) rfl (by kernel_rfl) (by kernel_rfl) (by kernel_rfl) (fun _ _ _ h => h) (Or.inl ⟨by rfl, fun w' hS => by obtain ⟨hs0, hs1, hs2, hs3, hs4, hs5, hs6, hs7⟩ := hS; exact exec_look (.tmp 21) (.tmp 22) 104 false rfl _ rfl _ rfl (hok ▸ (keys_look hs7 hko).1)⟩) (by assumption) ?_
    try simp only [gA, gB, gC, Act.put, gD, gE, gF]
    first | (refine tR (i := 6) rfl rfl ?_) | (refine tL (i := 6) (v := ?vb16) rfl ?hyb16 ?rb16; case hyb16 => (rintro w' hS; obtain ⟨hs0, hs1, hs2, hs3, hs4, hs5, hs6, hs7⟩ := hS; go_simp; try with_reducible rfl))
    try simp only [gA, gB, gC, Act.put, gD, gE, gF]
    refine wpAnyH_ready (rs := [7]) (by kernel_rfl) (by simp) ?_
    refine AllReadyH.cons (o := _) rfl (fun K hK => ?_) AllReadyH.nil
    refine step_deleteNil (by rfl) (.tmp 23) (.tmp 24) 103 35 (by rfl) 123 keyedDot Tryz.underlying103 rfl _ _ rfl hdk ?_
    try dsimp only
    refine hK.out _ _ (hS3 _ (Below.refl _ _).drew) (fun hHeld => ?_)
    clear hK K
    try simp only [gA, gB, gC, Act.put, gD, gE, gF]
    refine wpAnyH_done (by kernel_rfl) ?_ _
    go_wp2_with fail
    have hlen : ∀ w', SetIs w' none ([] : List DotN) → ∀ ty, (Builtin.len_ #[103] ty #[.map none]).run Tryz.prog w' = .ok (.int .i64 0) w' := fun w' hs ty => hs.len ty
    have hS4 : ∀ v, Below w3.heap.size w3 v → v.cell? ⟨p, 3, none⟩ = some (.map (B1 .keys)) ∧ v.cell? ⟨bk, 0, none⟩ = some (.string (str k1)) ∧ v.cell? ⟨bk, 1, none⟩ = some (.string (str k2)) ∧ v.cell? ⟨bk, 2, none⟩ = some (.string (str k3)) ∧ KeysIs v (B1 .keys) B1 ∧ SetIs v none ([] : List DotN) := fun v hv => ⟨(P3'.below hv).obj.cell 3 rfl, (o8.below hv l8).cell 0 rfl, (o8.below hv l8).cell 1 rfl, (o8.below hv l8).cell 2 rfl, (P3'.below hv).part .keys, .inl ⟨rfl, rfl⟩⟩
    refine wp_region_held_drew (S := fun w' => w'.cell? ⟨p, 3, none⟩ = some (.map (B1 .keys)) ∧ w'.cell? ⟨bk, 0, none⟩ = some (.string (str k1)) ∧ w'.cell? ⟨bk, 1, none⟩ = some (.string (str k2)) ∧ w'.cell? ⟨bk, 2, none⟩ = some (.string (str k3)) ∧ KeysIs w' (B1 .keys) B1 ∧ SetIs w' none ([] : List DotN)) (by kernel_rfl) (hS4 _ (Below.refl _ _).drew.drew) (fun hHeld => ?_)
    first | (refine tR (i := 0) rfl rfl ?_) | (refine tL (i := 0) (v := ?vb17) rfl ?hyb17 ?rb17; case hyb17 => (rintro w' hS; obtain ⟨hs0, hs1, hs2, hs3, hs4, hs5⟩ := hS; go_simp; try with_reducible rfl))
    try simp only [gA, gB, Act.put, gD, gE, gF]
    first | (refine tR (i := 1) rfl rfl ?_) | (refine tL (i := 1) (v := ?vb18) rfl ?hyb18 ?rb18; case hyb18 => (rintro w' hS; obtain ⟨hs0, hs1, hs2, hs3, hs4, hs5⟩ := hS; go_simp; try with_reducible rfl))
    try simp only [gA, gB, gC, Act.put, gD, gE, gF]
    first | (refine tR (i := 2) rfl rfl ?_) | (refine tL (i := 2) (v := ?vb19) rfl ?hyb19 ?rb19; case hyb19 => (rintro w' hS; obtain ⟨hs0, hs1, hs2, hs3, hs4, hs5⟩ := hS; go_simp; try with_reducible rfl))
    try simp only [gA, gB, gC, Act.put, gD, gE, gF]
    first | (refine tR (i := 3) rfl rfl ?_) | (refine tL (i := 3) (v := ?vb20) rfl ?hyb20 ?rb20; case hyb20 => (rintro w' hS; obtain ⟨hs0, hs1, hs2, hs3, hs4, hs5⟩ := hS; go_simp; try with_reducible rfl))
    try simp only [gA, gB, gC, Act.put, gD, gE, gF]
    first | (refine tR (i := 4) rfl rfl ?_) | (refine tL (i := 4) (v := ?vb21) rfl ?hyb21 ?rb21; case hyb21 => (rintro w' hS; obtain ⟨hs0, hs1, hs2, hs3, hs4, hs5⟩ := hS; go_simp; try with_reducible rfl))
    try simp only [gA, gB, gC, Act.put, gD, gE, gF]
    refine wpAnyH_take (i := 5) (v := .map none) rfl (by kernel_rfl) (by kernel_rfl) (by kernel_rfl) (fun _ _ _ h => h) (Or.inl ⟨by rfl, fun w' hS => by obtain ⟨hs0, hs1, hs2, hs3, hs4, hs5⟩ := hS; exact exec_look (.tmp 28) (.tmp 29) 104 false rfl _ rfl _ rfl (hok ▸ (keys_look hs4 hko).1)⟩) (by assumption) ?_
    try simp only [gA, gB, gC, Act.put, gD, gE, gF]
    refine wpAnyH_take (i := 6) (v := .int .i64 0) rfl (by kernel_rfl) (by kernel_rfl) (by kernel_rfl) (fun _ _ _ h => h) (Or.inl ⟨by rfl, fun w' hS => by obtain ⟨hs0, hs1, hs2, hs3, hs4, hs5⟩ := hS; exact exec_len (.tmp 30) 103 rfl _ rfl (hlen w' hs5 _)⟩) (by assumption) ?_
    try simp only [gA, gB, gC, Act.put, gD, gE, gF]
    first | (refine tR (i := 7) rfl rfl ?_) | (refine tL (i := 7) (v := ?vb22) rfl ?hyb22 ?rb22; case hyb22 => (rintro w' hS; obtain ⟨hs0, hs1, hs2, hs3, hs4, hs5⟩ := hS; go_simp; try with_reducible rfl))
    try simp only [gA, gB, gC, Act.put, gD, gE, gF]
    refine wpAnyH_done (by kernel_rfl) ?_ _
    go_wp2_with fail
    have c3 : Below w3.heap.size w3 w3.drew.drew := (Below.refl _ _).drew.drew
    have P5 := P3'.below c3
    have o9 := o8.below c3 l8
    have hk05 := hk03.trans (Keeps.new (F := OwnB p B) c3) (fun _ _ h => h)
    clear hS3 hS4 hlen P3 P3' o8 d3 c3 hk03 hHeld
    rcases P5.part .keys with ⟨e, h0⟩ | ⟨q, nq, Dq, e, hmq, hDq⟩
    · have p0 := P5.obj.cell 3 rfl
      rw [e] at p0
      have y0 := o9.cell 0 rfl; have y1 := o9.cell 1 rfl; have y2 := o9.cell 2 rfl
      refine wp_region_held_drew (S := fun w' => w'.cell? ⟨p, 3, none⟩ = some (.map none) ∧ w'.cell? ⟨bk, 0, none⟩ = some (.string (str k1)) ∧ w'.cell? ⟨bk, 1, none⟩ = some (.string (str k2)) ∧ w'.cell? ⟨bk, 2, none⟩ = some (.string (str k3))) (by kernel_rfl) (⟨p0, y0, y1, y2⟩) (fun hHeld => ?_)
      first | (refine tR (i := 0) rfl rfl ?_) | (refine tL (i := 0) (v := ?vb23) rfl ?hyb23 ?rb23; case hyb23 => (rintro w' hS; obtain ⟨hs0, hs1, hs2, hs3⟩ := hS; go_simp; try with_reducible rfl))
      try simp only [gA, gB, Act.put, gD, gE, gF]
      first | (refine tR (i := 1) rfl rfl ?_) | (refine tL (i := 1) (v := ?vb24) rfl ?hyb24 ?rb24; case hyb24 => (rintro w' hS; obtain ⟨hs0, hs1, hs2, hs3⟩ := hS; go_simp; try with_reducible rfl))
      try simp only [gA, gB, gC, Act.put, gD, gE, gF]
      first | (refine tR (i := 2) rfl rfl ?_) | (refine tL (i := 2) (v := ?vb25) rfl ?hyb25 ?rb25; case hyb25 => (rintro w' hS; obtain ⟨hs0, hs1, hs2, hs3⟩ := hS; go_simp; try with_reducible rfl))
      try simp only [gA, gB, gC, Act.put, gD, gE, gF]
      first | (refine tR (i := 3) rfl rfl ?_) | (refine tL (i := 3) (v := ?vb26) rfl ?hyb26 ?rb26; case hyb26 => (rintro w' hS; obtain ⟨hs0, hs1, hs2, hs3⟩ := hS; go_simp; try with_reducible rfl))
      try simp only [gA, gB, gC, Act.put, gD, gE, gF]
      first | (refine tR (i := 4) rfl rfl ?_) | (refine tL (i := 4) (v := ?vb27) rfl ?hyb27 ?rb27; case hyb27 => (rintro w' hS; obtain ⟨hs0, hs1, hs2, hs3⟩ := hS; go_simp; try with_reducible rfl))
      try simp only [gA, gB, gC, Act.put, gD, gE, gF]
      refine wpAnyH_ready (rs := [5]) (by kernel_rfl) (by simp) ?_
      refine AllReadyH.cons (o := _) rfl (fun K hK => ?_) AllReadyH.nil
      refine step_deleteNil (by rfl) (.tmp 36) (.tmp 37) 104 39 (by rfl) 103 keyedKey Tryz.underlying104 rfl _ _ rfl hkey ?_
      try dsimp only
      refine hK.out _ _ (⟨p0, y0, y1, y2⟩) (fun hHeld => ?_)
      clear hK K
      try simp only [gA, gB, gC, Act.put, gD, gE, gF]
      refine wpAnyH_done (by kernel_rfl) ?_ _
      go_wp2
      go_end0
      refine ⟨rfl, B1, P5.below (Below.refl _ _).drew, hnone, hk05.trans (Keeps.new (F := OwnB p B) (Below.refl _ _).drew) (fun _ _ h => h), fun i b e => ?_⟩
      rw [hbd]
      exact hown2 i b e
    · have p0 := P5.obj.cell 3 rfl
      rw [e] at p0
      have y0 := o9.cell 0 rfl; have y1 := o9.cell 1 rfl; have y2 := o9.cell 2 rfl
      have nqp : q ≠ p := fun c => P5.not_obj .keys (c ▸ e)
      have nqk : q ≠ bk := (P5.blk .keys q e).not_obj o9
      refine wp_region_held_drew (S := fun w' => w'.cell? ⟨p, 3, none⟩ = some (.map (some q)) ∧ w'.cell? ⟨bk, 0, none⟩ = some (.string (str k1)) ∧ w'.cell? ⟨bk, 1, none⟩ = some (.string (str k2)) ∧ w'.cell? ⟨bk, 2, none⟩ = some (.string (str k3))) (by kernel_rfl) (⟨p0, y0, y1, y2⟩) (fun hHeld => ?_)
      first | (refine tR (i := 0) rfl rfl ?_) | (refine tL (i := 0) (v := ?vb28) rfl ?hyb28 ?rb28; case hyb28 => (rintro w' hS; obtain ⟨hs0, hs1, hs2, hs3⟩ := hS; go_simp; try with_reducible rfl))
      try simp only [gA, gB, Act.put, gD, gE, gF]
      first | (refine tR (i := 1) rfl rfl ?_) | (refine tL (i := 1) (v := ?vb29) rfl ?hyb29 ?rb29; case hyb29 => (rintro w' hS; obtain ⟨hs0, hs1, hs2, hs3⟩ := hS; go_simp; try with_reducible rfl))
      try simp only [gA, gB, gC, Act.put, gD, gE, gF]
      first | (refine tR (i := 2) rfl rfl ?_) | (refine tL (i := 2) (v := ?vb30) rfl ?hyb30 ?rb30; case hyb30 => (rintro w' hS; obtain ⟨hs0, hs1, hs2, hs3⟩ := hS; go_simp; try with_reducible rfl))
      try simp only [gA, gB, gC, Act.put, gD, gE, gF]
      first | (refine tR (i := 3) rfl rfl ?_) | (refine tL (i := 3) (v := ?vb31) rfl ?hyb31 ?rb31; case hyb31 => (rintro w' hS; obtain ⟨hs0, hs1, hs2, hs3⟩ := hS; go_simp; try with_reducible rfl))
      try simp only [gA, gB, gC, Act.put, gD, gE, gF]
      first | (refine tR (i := 4) rfl rfl ?_) | (refine tL (i := 4) (v := ?vb32) rfl ?hyb32 ?rb32; case hyb32 => (rintro w' hS; obtain ⟨hs0, hs1, hs2, hs3⟩ := hS; go_simp; try with_reducible rfl))
      try simp only [gA, gB, gC, Act.put, gD, gE, gF]
      refine wpAnyH_ready (rs := [5]) (by kernel_rfl) (by simp) ?_
      refine AllReadyH.cons (o := _) rfl (fun K hK => ?_) AllReadyH.nil
      refine step_delete (by rfl) (.tmp 36) (.tmp 37) 104 39 (by rfl) 103 keyedKey Tryz.underlying104 heldElem q nq _ rfl hmq.drew _ _ rfl hkey ?_; intro w6 hm6 hk6; have ob6 := P5.obj.drew.keeps hk6 (fun c => nqp c.symm); have ok6 := o9.drew.keeps hk6 (fun c => nqk c.symm); have x0 := ob6.cell 3 rfl; rw [e] at x0
      try dsimp only
      refine hK.out _ _ (⟨x0, ok6.cell 0 rfl, ok6.cell 1 rfl, ok6.cell 2 rfl⟩) (fun hHeld => ?_)
      clear hK K
      try simp only [gA, gB, gC, Act.put, gD, gE, gF]
      refine wpAnyH_done (by kernel_rfl) ?_ _
      go_wp2
      go_end0
      have hkd : Keeps (fun _ : Nat => False) w3.drew.drew w3.drew.drew.drew := Keeps.new (Below.refl _ _).drew
      have hty := hmq.tidy keyedKey
      have hkd6 := KeysD.del (B' := B1) (k := (k1, k2, k3)) hDq hty hko hok (fun _ _ => rfl)
      rw [show keyT (k1, k2, k3) = keyK k1 k2 k3 from rfl] at hkd6
      have hof0 : (f (k1, k2, k3)).filter (fun y => !sameD y ⟨dev, inc, seq⟩) = [] := by rw [hf0]; rfl
      refine ⟨rfl, B1, (P5.below (Below.refl _ _).drew).setKey (k1, k2, k3) (fun _ _ _ => rfl) (hk6.mono fun k _ c => .inr (by rw [e, c])) ob6 (fun b e => .inl e) (fun b e => by rw [hok] at e; cases e) (.inr ⟨q, nq, _, e, hm6, hkd6⟩) (fun _ _ => rfl) (by rw [hok, hof0]; exact .inl ⟨rfl, rfl⟩), hnone, ?_, fun i b e => ?_⟩
      · refine (hk05.trans hkd (fun _ _ h => h.elim)).trans hk6 fun k hk c => ?_
        rcases hown2 .keys k (c ▸ e) with ⟨j, c2⟩ | c2
        · exact .inr ⟨j, c2⟩
        · omega
      · rw [hbd]
        exact hown2 i b e
  | some b =>
    obtain ⟨n2, D2, hm2, hD2⟩ : ∃ n2 D2, w3.ownsMap Tryz.prog 35 unitElem b n2 D2 ∧ SetD D2 (f (k1, k2, k3)) := by
      rcases hP3of with ⟨e, -⟩ | ⟨b', n, D, e, h1, h2⟩
      · rw [hok] at e
        cases e
      · rw [hok] at e
        cases e
        exact ⟨n, D, h1, h2⟩
    have nbp : b ≠ p := fun c => P3.not_obj (.of (k1, k2, k3)) (c ▸ hok)
    have nbk : b ≠ bk := (ownsMap_blk hm2).not_obj o8
    have nbd : b ≠ bd := (ownsMap_blk hm2).not_obj d3
    have nbq : ∀ q, B1 .keys = some q → q ≠ b := fun q e c => by
      have := P3.inj .keys (.of (k1, k2, k3)) q e (c ▸ hok)
      cases this
    have hsd := hD2.del (hm2.tidy keyedDot) (hnd _) hx
    clear hP3of hnd hkn
    go_wp2_with fail
    refine wp_region_held_drew (S := fun w' => w'.cell? ⟨p, 3, none⟩ = some (.map (B1 .keys)) ∧ w'.cell? ⟨bd, 0, none⟩ = some (.int .i64 dev) ∧ w'.cell? ⟨bd, 1, none⟩ = some (.int .i64 inc) ∧ w'.cell? ⟨bd, 2, none⟩ = some (.int .i64 seq) ∧ w'.cell? ⟨bk, 0, none⟩ = some (.string (str k1)) ∧ w'.cell? ⟨bk, 1, none⟩ = some (.string (str k2)) ∧ w'.cell? ⟨bk, 2, none⟩ = some (.string (str k3)) ∧ KeysIs w' (B1 .keys) B1) (by kernel_rfl) (hS3 _ (Below.refl _ _).drew) (fun hHeld => ?_)
    first | (refine tR (i := 0) rfl rfl ?_) | (refine tL (i := 0) (v := ?vb50) rfl ?hyb50 ?rb50; case hyb50 => (rintro w' hS; obtain ⟨hs0, hs1, hs2, hs3, hs4, hs5, hs6, hs7⟩ := hS; go_simp; try with_reducible rfl))
    try simp only [gA, gB, Act.put, gD, gE, gF]
    first | (refine tR (i := 1) rfl rfl ?_) | (refine tL (i := 1) (v := ?vb51) rfl ?hyb51 ?rb51; case hyb51 => (rintro w' hS; obtain ⟨hs0, hs1, hs2, hs3, hs4, hs5, hs6, hs7⟩ := hS; go_simp; try with_reducible rfl))
    try simp only [gA, gB, gC, Act.put, gD, gE, gF]
    first | (refine tR (i := 2) rfl rfl ?_) | (refine tL (i := 2) (v := ?vb52) rfl ?hyb52 ?rb52; case hyb52 => (rintro w' hS; obtain ⟨hs0, hs1, hs2, hs3, hs4, hs5, hs6, hs7⟩ := hS; go_simp; try with_reducible rfl))
    try simp only [gA, gB, gC, Act.put, gD, gE, gF]
    first | (refine tR (i := 3) rfl rfl ?_) | (refine tL (i := 3) (v := ?vb53) rfl ?hyb53 ?rb53; case hyb53 => (rintro w' hS; obtain ⟨hs0, hs1, hs2, hs3, hs4, hs5, hs6, hs7⟩ := hS; go_simp; try with_reducible rfl))
    try simp only [gA, gB, gC, Act.put, gD, gE, gF]
    first | (refine tR (i := 4) rfl rfl ?_) | (refine tL (i := 4) (v := ?vb54) rfl ?hyb54 ?rb54; case hyb54 => (rintro w' hS; obtain ⟨hs0, hs1, hs2, hs3, hs4, hs5, hs6, hs7⟩ := hS; go_simp; try with_reducible rfl))
    try simp only [gA, gB, gC, Act.put, gD, gE, gF]
    refine wpAnyH_take (i := 5) (v := .map (some b)) rfl (by kernel_rfl) (by kernel_rfl) (by kernel_rfl) (fun _ _ _ h => h) (Or.inl ⟨by rfl, fun w' hS => by obtain ⟨hs0, hs1, hs2, hs3, hs4, hs5, hs6, hs7⟩ := hS; exact exec_look (.tmp 21) (.tmp 22) 104 false rfl _ rfl _ rfl (hok ▸ (keys_look hs7 hko).1)⟩) (by assumption) ?_
    try simp only [gA, gB, gC, Act.put, gD, gE, gF]
    first | (refine tR (i := 6) rfl rfl ?_) | (refine tL (i := 6) (v := ?vb55) rfl ?hyb55 ?rb55; case hyb55 => (rintro w' hS; obtain ⟨hs0, hs1, hs2, hs3, hs4, hs5, hs6, hs7⟩ := hS; go_simp; try with_reducible rfl))
    try simp only [gA, gB, gC, Act.put, gD, gE, gF]
    refine wpAnyH_ready (rs := [7]) (by kernel_rfl) (by simp) ?_
    refine AllReadyH.cons (o := _) rfl (fun K hK => ?_) AllReadyH.nil
    refine step_delete (by rfl) (.tmp 23) (.tmp 24) 103 35 (by rfl) 123 keyedDot Tryz.underlying103 unitElem b n2 _ rfl hm2.drew _ _ rfl hdk ?_; intro w4 hm4 hk4; have ob4 := P3.obj.drew.keeps hk4 (fun c => nbp c.symm); have ok4 := o8.drew.keeps hk4 (fun c => nbk c.symm); have od4 := d3.drew.keeps hk4 (fun c => nbd c.symm); have hke4 := (P3.part .keys).keeps (Keeps.new (F := fun x => x = b) (Below.refl w3.heap.size w3).drew |>.trans hk4 (fun _ _ h => h)) nbq
    try dsimp only
    refine hK.out _ _ (⟨ob4.cell 3 rfl, od4.cell 0 rfl, od4.cell 1 rfl, od4.cell 2 rfl, ok4.cell 0 rfl, ok4.cell 1 rfl, ok4.cell 2 rfl, hke4⟩) (fun hHeld => ?_)
    clear hK K
    try simp only [gA, gB, gC, Act.put, gD, gE, gF]
    refine wpAnyH_done (by kernel_rfl) ?_ _
    go_wp2_with fail
    have hkd : Keeps (fun x => x = b) w3 w3.drew := Keeps.new (Below.refl _ _).drew
    have P4 : Parts w4 p B1 rs m.ctx (sortD (m.dead ++ [⟨dev, inc, seq⟩])) (fun k => (f k).filter fun y => !sameD y ⟨dev, inc, seq⟩) :=
      P3.setOf (k1, k2, k3) b hok (hkd.trans hk4 (fun _ _ h => h)) (fun _ h => .inl h) (fun k hk => hout k hk) (.inr ⟨b, n2, _, rfl, hm4, hsd⟩)
    have o4 : ObjAt w4 bk [.string (str k1), .string (str k2), .string (str k3)] := o8.drew.keeps hk4 (fun c => nbk c.symm)
    have hbo : ∃ j, B1 j = some b := ⟨_, hok⟩
    have hbB : OwnB p B b ∨ bd ≤ b := (hown2 _ b hok).imp (fun c => .inr c) id
    have hk04 : Keeps (OwnB p B) w w4 := (hk03.trans (Keeps.new (F := OwnB p B) (Below.refl w3.heap.size w3).drew) (fun _ _ h => h)).trans hk4 fun k hk c => by
      rcases hbB with h1 | h1
      · exact c ▸ h1
      · omega
    have hfn := fun k (hk : k ≠ (k1, k2, k3)) => hout k hk
    obtain ⟨L, hL⟩ : ∃ L, (f (k1, k2, k3)).filter (fun y => !sameD y ⟨dev, inc, seq⟩) = L := ⟨_, rfl⟩
    have hs4 := P4.part (.of (k1, k2, k3))
    rw [show PartI w4 B1 rs m.ctx (sortD (m.dead ++ [⟨dev, inc, seq⟩])) (fun k => (f k).filter fun y => !sameD y ⟨dev, inc, seq⟩) (.of (k1, k2, k3)) = SetIs w4 (B1 (.of (k1, k2, k3))) ((f (k1, k2, k3)).filter fun y => !sameD y ⟨dev, inc, seq⟩) from rfl, hok, hL] at hs4
    have hS4 : ∀ v, Below w4.heap.size w4 v → v.cell? ⟨p, 3, none⟩ = some (.map (B1 .keys)) ∧ v.cell? ⟨bk, 0, none⟩ = some (.string (str k1)) ∧ v.cell? ⟨bk, 1, none⟩ = some (.string (str k2)) ∧ v.cell? ⟨bk, 2, none⟩ = some (.string (str k3)) ∧ KeysIs v (B1 .keys) B1 ∧ SetIs v (some b) L := fun v hv => ⟨(P4.below hv).obj.cell 3 rfl, (o4.below hv o4.lt).cell 0 rfl, (o4.below hv o4.lt).cell 1 rfl, (o4.below hv o4.lt).cell 2 rfl, (P4.below hv).part .keys, hs4.keeps (Keeps.new (F := fun _ => False) hv) (fun _ _ h => h)⟩
    have hlen : ∀ w', SetIs w' (some b) L → ∀ ty, (Builtin.len_ #[103] ty #[.map (some b)]).run Tryz.prog w' = .ok (.int .i64 (L.length : Int)) w' := fun w' hs ty => hs.len ty
    have c4 : Below w4.heap.size w4 w4.drew := (Below.refl _ _).drew
    have P5 := P4.below c4
    have o5 := o4.below c4 o4.lt
    have hk05 := hk04.trans (Keeps.new (F := OwnB p B) c4) (fun _ _ h => h)
    cases L with
    | cons y t =>
      have hlz : ((((y :: t).length : Nat) : Int) == 0) = false := by rw [List.length_cons]; simp; omega
      obtain ⟨N, hN⟩ : ∃ N, (((y :: t).length : Nat) : Int) = N := ⟨_, rfl⟩
      rw [hN] at hlz hlen
      clear hS3 P3 o8 d3 hk03 hsd hm2 hD2 hm4 hk4 hN
      refine wp_region_held_drew (S := fun w' => w'.cell? ⟨p, 3, none⟩ = some (.map (B1 .keys)) ∧ w'.cell? ⟨bk, 0, none⟩ = some (.string (str k1)) ∧ w'.cell? ⟨bk, 1, none⟩ = some (.string (str k2)) ∧ w'.cell? ⟨bk, 2, none⟩ = some (.string (str k3)) ∧ KeysIs w' (B1 .keys) B1 ∧ SetIs w' (some b) (y :: t)) (by kernel_rfl) (hS4 _ (Below.refl _ _).drew) (fun hHeld => ?_)
      first | (refine tR (i := 0) rfl rfl ?_) | (refine tL (i := 0) (v := ?vb38) rfl ?hyb38 ?rb38; case hyb38 => (rintro w' hS; obtain ⟨hs0, hs1, hs2, hs3, hs4, hs5⟩ := hS; go_simp; try with_reducible rfl))
      try simp only [gA, gB, Act.put, gD, gE, gF]
      first | (refine tR (i := 1) rfl rfl ?_) | (refine tL (i := 1) (v := ?vb39) rfl ?hyb39 ?rb39; case hyb39 => (rintro w' hS; obtain ⟨hs0, hs1, hs2, hs3, hs4, hs5⟩ := hS; go_simp; try with_reducible rfl))
      try simp only [gA, gB, gC, Act.put, gD, gE, gF]
      first | (refine tR (i := 2) rfl rfl ?_) | (refine tL (i := 2) (v := ?vb40) rfl ?hyb40 ?rb40; case hyb40 => (rintro w' hS; obtain ⟨hs0, hs1, hs2, hs3, hs4, hs5⟩ := hS; go_simp; try with_reducible rfl))
      try simp only [gA, gB, gC, Act.put, gD, gE, gF]
      first | (refine tR (i := 3) rfl rfl ?_) | (refine tL (i := 3) (v := ?vb41) rfl ?hyb41 ?rb41; case hyb41 => (rintro w' hS; obtain ⟨hs0, hs1, hs2, hs3, hs4, hs5⟩ := hS; go_simp; try with_reducible rfl))
      try simp only [gA, gB, gC, Act.put, gD, gE, gF]
      first | (refine tR (i := 4) rfl rfl ?_) | (refine tL (i := 4) (v := ?vb42) rfl ?hyb42 ?rb42; case hyb42 => (rintro w' hS; obtain ⟨hs0, hs1, hs2, hs3, hs4, hs5⟩ := hS; go_simp; try with_reducible rfl))
      try simp only [gA, gB, gC, Act.put, gD, gE, gF]
      refine wpAnyH_take (i := 5) (v := .map (some b)) rfl (by kernel_rfl) (by kernel_rfl) (by kernel_rfl) (fun _ _ _ h => h) (Or.inl ⟨by rfl, fun w' hS => by obtain ⟨hs0, hs1, hs2, hs3, hs4, hs5⟩ := hS; exact exec_look (.tmp 28) (.tmp 29) 104 false rfl _ rfl _ rfl (hok ▸ (keys_look hs4 hko).1)⟩) (by assumption) ?_
      try simp only [gA, gB, gC, Act.put, gD, gE, gF]
      refine wpAnyH_take (i := 6) (v := .int .i64 N) rfl (by kernel_rfl) (by kernel_rfl) (by kernel_rfl) (fun _ _ _ h => h) (Or.inl ⟨by rfl, fun w' hS => by obtain ⟨hs0, hs1, hs2, hs3, hs4, hs5⟩ := hS; exact exec_len (.tmp 30) 103 rfl _ rfl (hlen w' hs5 _)⟩) (by assumption) ?_
      try simp only [gA, gB, gC, Act.put, gD, gE, gF]
      first | (refine tR (i := 7) rfl rfl ?_) | (refine tL (i := 7) (v := ?vb43) rfl ?hyb43 ?rb43; case hyb43 => (rintro w' hS; obtain ⟨hs0, hs1, hs2, hs3, hs4, hs5⟩ := hS; go_simp; try with_reducible rfl))
      try simp only [gA, gB, gC, Act.put, gD, gE, gF]
      refine wpAnyH_done (by kernel_rfl) ?_ _
      go_wp2_with fail
      go_end0
      refine ⟨rfl, B1, P5, fun k e => ?_, hk05, fun i b e => ?_⟩
      · by_cases ek : k = (k1, k2, k3)
        · rw [ek, hL] at e
          cases e
        · rw [hout k ek] at e
          rw [hof2]
          exact hsm k e
      · rw [hbd]
        exact hown2 i b e
    | nil =>
      have hlen0 : ∀ w', SetIs w' (some b) ([] : List DotN) → ∀ ty, (Builtin.len_ #[103] ty #[.map (some b)]).run Tryz.prog w' = .ok (.int .i64 0) w' := hlen
      clear hlen
      have hlen := hlen0
      clear hS3 P3 o8 d3 hk03 hsd hm2 hD2 hm4 hk4 hlen0
      refine wp_region_held_drew (S := fun w' => w'.cell? ⟨p, 3, none⟩ = some (.map (B1 .keys)) ∧ w'.cell? ⟨bk, 0, none⟩ = some (.string (str k1)) ∧ w'.cell? ⟨bk, 1, none⟩ = some (.string (str k2)) ∧ w'.cell? ⟨bk, 2, none⟩ = some (.string (str k3)) ∧ KeysIs w' (B1 .keys) B1 ∧ SetIs w' (some b) ([] : List DotN)) (by kernel_rfl) (hS4 _ (Below.refl _ _).drew) (fun hHeld => ?_)
      first | (refine tR (i := 0) rfl rfl ?_) | (refine tL (i := 0) (v := ?vb44) rfl ?hyb44 ?rb44; case hyb44 => (rintro w' hS; obtain ⟨hs0, hs1, hs2, hs3, hs4, hs5⟩ := hS; go_simp; try with_reducible rfl))
      try simp only [gA, gB, Act.put, gD, gE, gF]
      first | (refine tR (i := 1) rfl rfl ?_) | (refine tL (i := 1) (v := ?vb45) rfl ?hyb45 ?rb45; case hyb45 => (rintro w' hS; obtain ⟨hs0, hs1, hs2, hs3, hs4, hs5⟩ := hS; go_simp; try with_reducible rfl))
      try simp only [gA, gB, gC, Act.put, gD, gE, gF]
      first | (refine tR (i := 2) rfl rfl ?_) | (refine tL (i := 2) (v := ?vb46) rfl ?hyb46 ?rb46; case hyb46 => (rintro w' hS; obtain ⟨hs0, hs1, hs2, hs3, hs4, hs5⟩ := hS; go_simp; try with_reducible rfl))
      try simp only [gA, gB, gC, Act.put, gD, gE, gF]
      first | (refine tR (i := 3) rfl rfl ?_) | (refine tL (i := 3) (v := ?vb47) rfl ?hyb47 ?rb47; case hyb47 => (rintro w' hS; obtain ⟨hs0, hs1, hs2, hs3, hs4, hs5⟩ := hS; go_simp; try with_reducible rfl))
      try simp only [gA, gB, gC, Act.put, gD, gE, gF]
      first | (refine tR (i := 4) rfl rfl ?_) | (refine tL (i := 4) (v := ?vb48) rfl ?hyb48 ?rb48; case hyb48 => (rintro w' hS; obtain ⟨hs0, hs1, hs2, hs3, hs4, hs5⟩ := hS; go_simp; try with_reducible rfl))
      try simp only [gA, gB, gC, Act.put, gD, gE, gF]
      refine wpAnyH_take (i := 5) (v := .map (some b)) rfl (by kernel_rfl) (by kernel_rfl) (by kernel_rfl) (fun _ _ _ h => h) (Or.inl ⟨by rfl, fun w' hS => by obtain ⟨hs0, hs1, hs2, hs3, hs4, hs5⟩ := hS; exact exec_look (.tmp 28) (.tmp 29) 104 false rfl _ rfl _ rfl (hok ▸ (keys_look hs4 hko).1)⟩) (by assumption) ?_
      try simp only [gA, gB, gC, Act.put, gD, gE, gF]
      refine wpAnyH_take (i := 6) (v := .int .i64 0) rfl (by kernel_rfl) (by kernel_rfl) (by kernel_rfl) (fun _ _ _ h => h) (Or.inl ⟨by rfl, fun w' hS => by obtain ⟨hs0, hs1, hs2, hs3, hs4, hs5⟩ := hS; exact exec_len (.tmp 30) 103 rfl _ rfl (hlen w' hs5 _)⟩) (by assumption) ?_
      try simp only [gA, gB, gC, Act.put, gD, gE, gF]
      first | (refine tR (i := 7) rfl rfl ?_) | (refine tL (i := 7) (v := ?vb49) rfl ?hyb49 ?rb49; case hyb49 => (rintro w' hS; obtain ⟨hs0, hs1, hs2, hs3, hs4, hs5⟩ := hS; go_simp; try with_reducible rfl))
      try simp only [gA, gB, gC, Act.put, gD, gE, gF]
      refine wpAnyH_done (by kernel_rfl) ?_ _
      go_wp2_with fail
      obtain ⟨q, nq, Dq, e, hmq, hDq⟩ : ∃ q nq Dq, B1 .keys = some q ∧ w4.drew.ownsMap Tryz.prog 39 heldElem q nq Dq ∧ KeysD Dq B1 := by
        rcases P5.part .keys with ⟨e, h0⟩ | ⟨q, nq, Dq, e, hmq, hDq⟩
        · rw [h0] at hok
          cases hok
        · exact ⟨q, nq, Dq, e, hmq, hDq⟩
      have p0 := P5.obj.cell 3 rfl
      rw [e] at p0
      have y0 := o5.cell 0 rfl; have y1 := o5.cell 1 rfl; have y2 := o5.cell 2 rfl
      have nqp : q ≠ p := fun c => P5.not_obj .keys (c ▸ e)
      have nqk : q ≠ bk := (P5.blk .keys q e).not_obj o5
      clear hS4 hlen hs4
      refine wp_region_held_drew (S := fun w' => w'.cell? ⟨p, 3, none⟩ = some (.map (some q)) ∧ w'.cell? ⟨bk, 0, none⟩ = some (.string (str k1)) ∧ w'.cell? ⟨bk, 1, none⟩ = some (.string (str k2)) ∧ w'.cell? ⟨bk, 2, none⟩ = some (.string (str k3))) (by kernel_rfl) (⟨p0, y0, y1, y2⟩) (fun hHeld => ?_)
      first | (refine tR (i := 0) rfl rfl ?_) | (refine tL (i := 0) (v := ?vb33) rfl ?hyb33 ?rb33; case hyb33 => (rintro w' hS; obtain ⟨hs0, hs1, hs2, hs3⟩ := hS; go_simp; try with_reducible rfl))
      try simp only [gA, gB, Act.put, gD, gE, gF]
      first | (refine tR (i := 1) rfl rfl ?_) | (refine tL (i := 1) (v := ?vb34) rfl ?hyb34 ?rb34; case hyb34 => (rintro w' hS; obtain ⟨hs0, hs1, hs2, hs3⟩ := hS; go_simp; try with_reducible rfl))
      try simp only [gA, gB, gC, Act.put, gD, gE, gF]
      first | (refine tR (i := 2) rfl rfl ?_) | (refine tL (i := 2) (v := ?vb35) rfl ?hyb35 ?rb35; case hyb35 => (rintro w' hS; obtain ⟨hs0, hs1, hs2, hs3⟩ := hS; go_simp; try with_reducible rfl))
      try simp only [gA, gB, gC, Act.put, gD, gE, gF]
      first | (refine tR (i := 3) rfl rfl ?_) | (refine tL (i := 3) (v := ?vb36) rfl ?hyb36 ?rb36; case hyb36 => (rintro w' hS; obtain ⟨hs0, hs1, hs2, hs3⟩ := hS; go_simp; try with_reducible rfl))
      try simp only [gA, gB, gC, Act.put, gD, gE, gF]
      first | (refine tR (i := 4) rfl rfl ?_) | (refine tL (i := 4) (v := ?vb37) rfl ?hyb37 ?rb37; case hyb37 => (rintro w' hS; obtain ⟨hs0, hs1, hs2, hs3⟩ := hS; go_simp; try with_reducible rfl))
      try simp only [gA, gB, gC, Act.put, gD, gE, gF]
      refine wpAnyH_ready (rs := [5]) (by kernel_rfl) (by simp) ?_
      refine AllReadyH.cons (o := _) rfl (fun K hK => ?_) AllReadyH.nil
      refine step_delete (by rfl) (.tmp 36) (.tmp 37) 104 39 (by rfl) 103 keyedKey Tryz.underlying104 heldElem q nq _ rfl hmq.drew _ _ rfl hkey ?_; intro w6 hm6 hk6; have ob6 := P5.obj.drew.keeps hk6 (fun c => nqp c.symm); have ok6 := o5.drew.keeps hk6 (fun c => nqk c.symm); have x0 := ob6.cell 3 rfl; rw [e] at x0
      try dsimp only
      refine hK.out _ _ (⟨x0, ok6.cell 0 rfl, ok6.cell 1 rfl, ok6.cell 2 rfl⟩) (fun hHeld => ?_)
      clear hK K
      try simp only [gA, gB, gC, Act.put, gD, gE, gF]
      refine wpAnyH_done (by kernel_rfl) ?_ _
      go_wp2
      go_end0
      obtain ⟨B2, hB2n, hB2o⟩ := slots_put B1 (.of (k1, k2, k3)) none
      have hkeys2 : B2 .keys = some q := (hB2o _ (fun q => by cases q)).trans e
      have hty := hmq.tidy keyedKey
      have hkd6 := KeysD.del (B' := B2) (k := (k1, k2, k3)) hDq hty hko hB2n (fun k ek => hB2o (.of k) (fun c => ek (by cases c; rfl)))
      rw [show keyT (k1, k2, k3) = keyK k1 k2 k3 from rfl] at hkd6
      refine ⟨rfl, B2, (P5.below (Below.refl _ _).drew).setKey (k1, k2, k3) (fun j h1 h2 => hB2o j h2) (hk6.mono fun k _ c => .inr (by rw [e, c])) ?_ (fun b e2 => .inl (by rw [e, ← hkeys2]; exact e2)) (fun b e => by rw [hB2n] at e; cases e) (.inr ⟨q, nq, _, hkeys2, hm6, hkd6⟩) (fun _ _ => rfl) (by rw [hB2n, hL]; exact .inl ⟨rfl, rfl⟩), fun k ek => ?_, ?_, fun i b2 e2 => ?_⟩
      · rw [show cellsB B2 = cellsB B1 from by unfold cellsB; rw [hB2o .ctx (fun q => by cases q), hB2o .kept (fun q => by cases q), hB2o .dead (fun q => by cases q), hB2o .keys (fun q => by cases q)]]
        exact ob6
      · by_cases ek2 : k = (k1, k2, k3)
        · rw [ek2]
          exact hB2n
        · rw [hB2o (.of k) (fun c => ek2 (by cases c; rfl)), hof2]
          rw [hout k ek2] at ek
          exact hsm k ek
      · refine (hk05.trans (Keeps.new (F := fun _ => False) (Below.refl w4.drew.heap.size w4.drew).drew) (fun _ _ h => h.elim)).trans hk6 fun k hk c => ?_
        rcases hown2 .keys k (c ▸ e) with ⟨j, c2⟩ | c2
        · exact .inr ⟨j, c2⟩
        · omega
      · rw [hbd]
        by_cases ei : i = .of (k1, k2, k3)
        · rw [ei, hB2n] at e2
          cases e2
        · rw [hB2o i ei] at e2
          exact hown2 i b2 e2
def killM (m : MapN) (x : DotN) : MapN := ⟨m.ctx, m.kept, sortD (m.dead ++ [x])⟩
theorem kill_hasD (E : List DotN) (x y : DotN) : hasD (sortD (E ++ [x])) y = (hasD E y || sameD y x) := by
  rw [Bool.eq_iff_iff, Bool.or_eq_true, hasD_iff, sortD_mem, List.mem_append, List.mem_singleton, hasD_iff, sameD_iff]
theorem mKillI {w : World} {p : Nat} {B : Slots} {rs : List EvR} {m : MapN} (h : Real w p B rs m) (x : DotN) (hr : rightD x = true) (hn : m.dead.length ≤ 1000000) :
    Calls Tryz.prog 71 #[.pointer (some ⟨p, 0, none⟩), .agg #[.int .i64 x.dev, .int .i64 x.inc, .int .i64 x.seq]] w fun e w' => e = .returned (.tuple #[]) ∧ ∃ B', Step w w' p B rs B' rs (killM m x) := by
  refine (killP h x hr hn).mono ?_
  rintro e w' ⟨rfl, B', hP, hnone, hk, hown⟩
  have hf : ∀ k, (dotsK m.kept m.dead k).filter (fun y => !sameD y x) = dotsK (killM m x).kept (killM m x).dead k := fun k => (dotsK_kill m.kept (kill_hasD m.dead x) k).symm
  refine ⟨rfl, B', ⟨Parts.real (m := killM m x) hP hf (fun k e => hnone k (by rw [hf]; exact e)) h.rs ⟨⟨h.ok.ok.ctx, h.ok.ok.kept, h.ok.ok.dots⟩, h.ok.right, sortD_sorted _, fun d hd => ?_⟩ h.few h.light, hk, hown, fun k h => .inl h⟩⟩
  rcases List.mem_append.1 ((sortD_mem _ _).1 hd) with c | c
  · exact h.ok.rdead d c
  · rw [List.mem_singleton.1 c]
    exact hr
end Go.Proofs.YtaodjnkjjmhecaaGreatDoor
namespace Go.Proofs.YtaodjnkjjmhecaaGreatDoor
open Go.RowKit
set_option linter.unusedVariables false
theorem canon_bytes {h : List UInt8} (hc : canonB h = true) : (∀ x ∈ h, x = 46 ∨ signB x = true) ∨ bracketB h = true := by
  unfold canonB addrB at hc
  rw [Bool.and_eq_true, Bool.or_eq_true, Bool.or_eq_true] at hc
  rcases hc.2 with h1 | h1 | h1
  · exact .inl (labels_sign (name_labels h1).2.2)
  · left
    intro x hx
    unfold quadB at h1
    rw [Bool.and_eq_true] at h1
    rw [← joinL_all h 46] at hx
    rcases mem_join 46 _ x hx with h2 | ⟨p, hp, hx⟩
    · exact .inl h2
    · right
      have ho := List.all_eq_true.1 h1.2 p hp
      unfold octetB at ho
      simp only [Bool.and_eq_true, decide_eq_true_iff] at ho
      obtain ⟨i, hi, rfl⟩ := List.getElem_of_mem hx
      have hd := lead_all ho.1.1.2 i hi
      simp only [List.getD, List.getElem?_eq_getElem hi, Option.getD_some] at hd
      unfold signB
      rw [decide_eq_true hd.1, decide_eq_true hd.2]
      simp
  · exact .inr h1
def hostByte (x : UInt8) : Bool := seenB x && (low x == x) && !(([47, 63, 35] : List UInt8).contains x)
theorem byte_all (p : UInt8 → Bool) (h : ∀ n, n < 256 → p (UInt8.ofNat n) = true) (x : UInt8) : p x = true := by
  have := h x.toNat (u8_lt x)
  rwa [UInt8.ofNat_toNat] at this
theorem sign_host (x : UInt8) (h : signB x = true) : hostByte x = true ∧ x ≠ 58 ∧ x ≠ 91 := by
  have := byte_all (fun x => !signB x || (hostByte x && !(x == 58) && !(x == 91))) (by decide +kernel) x
  rw [h] at this
  simpa [Bool.and_eq_true, and_assoc] using this
theorem hex_host (x : UInt8) (h : hexB x = true) : hostByte x = true ∧ x ≠ 93 := by
  have := byte_all (fun x => !hexB x || (hostByte x && !(x == 93))) (by decide +kernel) x
  rw [h] at this
  simpa [Bool.and_eq_true] using this
theorem bracket_split {h : List UInt8} (hb : bracketB h = true) : ∃ m, h = 91 :: (m ++ [93]) ∧ ∀ x ∈ m, hexB x = true := by
  unfold bracketB at hb
  simp only [Bool.and_eq_true, decide_eq_true_iff, beq_iff_eq] at hb
  obtain ⟨⟨⟨⟨h1, h2⟩, h3⟩, h4⟩, h5⟩ := hb
  refine ⟨(h.drop 1).take (h.length - 2), ?_, fun x hx => List.all_eq_true.1 h5 x hx⟩
  cases h with
  | nil => simp at h1
  | cons y t =>
    have e : y = 91 := h3
    subst e
    congr 1
    simp only [List.drop_succ_cons, List.drop_zero, List.length_cons] at h4 ⊢
    have h1 : 3 ≤ t.length := by simp at h1; omega
    have e1 : t.length + 1 - 2 = t.length - 1 := by omega
    rw [e1]
    have e2 : t.drop (t.length - 1) = [93] := by
      rw [List.drop_eq_getElem_cons (by omega), List.drop_eq_nil_of_le (by omega)]
      have e3 : t.length + 1 - 1 = (t.length - 1) + 1 := by omega
      rw [e3] at h4
      simp only [List.getD, List.getElem?_cons_succ, List.getElem?_eq_getElem (show t.length - 1 < t.length by omega), Option.getD_some] at h4
      rw [h4]
    have := List.take_append_drop (t.length - 1) t
    rw [e2] at this
    exact this.symm
theorem canon_host {h : List UInt8} (hc : canonB h = true) : ∀ x ∈ h, hostByte x = true := by
  intro x hx
  rcases canon_bytes hc with h1 | h1
  · rcases h1 x hx with rfl | h2
    · decide +kernel
    · exact (sign_host x h2).1
  · obtain ⟨m, rfl, hm⟩ := bracket_split h1
    rcases List.mem_cons.1 hx with rfl | hx
    · decide +kernel
    · rcases List.mem_append.1 hx with hx | hx
      · exact (hex_host x (hm x hx)).1
      · rw [List.mem_singleton] at hx
        subst hx
        decide +kernel
theorem map_low_host {h : List UInt8} (hc : canonB h = true) : h.map low = h := by
  have := canon_host hc
  clear hc
  induction h with
  | nil => rfl
  | cons x xs ih =>
    have hx := this x (by simp)
    unfold hostByte at hx
    rw [Bool.and_eq_true, Bool.and_eq_true, beq_iff_eq] at hx
    rw [List.map_cons, hx.1.2, ih fun y hy => this y (by simp [hy])]
theorem findS_spec (l s : List UInt8) : (∀ (j : Nat) b, j < findS l s → l[j]? = some b → s.contains b = false) ∧ (findS l s < l.length → ∃ b, l[findS l s]? = some b ∧ s.contains b = true) := by
  unfold findS
  refine ⟨fun j b hj hb => ?_, fun h => ?_⟩
  · have hl := List.findIdx_le_length (p := fun x => s.contains x) (xs := l)
    have h2 := List.not_of_lt_findIdx hj
    have h3 : l[j]? = some l[j] := List.getElem?_eq_getElem _
    rw [h3] at hb
    cases hb
    simpa using h2
  · exact ⟨l[l.findIdx fun x => s.contains x], List.getElem?_eq_getElem h, List.findIdx_getElem (w := h)⟩
theorem lib_any (l s : List UInt8) : Lib.indexAny l s = if findS l s = l.length then -1 else (findS l s : Int) := by
  obtain ⟨h1, h2⟩ := findS_spec l s
  by_cases h : findS l s = l.length
  · rw [if_pos h]
    exact Lib.indexAny_none (by rw [← h]; exact h1)
  · rw [if_neg h]
    obtain ⟨b, hb, hc⟩ := h2 (Nat.lt_of_le_of_ne (findS_le l s) h)
    exact Lib.indexAny_hit h1 hb hc
theorem byte_find (l : List UInt8) (c : UInt8) : Lib.indexByte l c = if l.findIdx (· == c) = l.length then -1 else (l.findIdx (· == c) : Int) := by
  have h := lib_any l [c]
  rw [Lib.indexAny_one] at h
  rw [h]
  have e : findS l [c] = l.findIdx (· == c) := by
    unfold findS
    congr 1
    funext x
    rw [Bool.eq_iff_iff, beq_iff_eq, List.contains_iff_mem, List.mem_singleton]
  rw [e]
theorem byteC (l : List UInt8) (c : UInt8) (w : World) :
    Calls Tryz.prog 229 #[.string (str l), .int .u8 (c.toNat : Int)] w fun e w' => e = .returned (.int .i64 (Lib.indexByte l c)) ∧ w = w' := by
  refine (Tryz.strings_IndexByte (str l) (c.toNat : Int) w).mono ?_
  rintro e w' ⟨rfl, rfl⟩
  rw [str_data]
  have : (c.toNat : Int).toNat.toUInt8 = c := by simp
  rw [this]
  exact ⟨rfl, rfl⟩
theorem canon_self (h : List UInt8) : ∃ (X : List UInt8) (E : Int),
    (if 256 < h.length then (Value.tuple #[.string (str []), .int .i64 3]) else if canonB (h.map low) = true then .tuple #[.string (str (h.map low)), .int .i64 0] else .tuple #[.string (str []), .int .i64 1]) = .tuple #[.string (str X), .int .i64 E] ∧
    ((E = 0 ∧ X = h ∧ canonB h = true) ∨ (E = 0 ∧ (X == h) = false ∧ canonB h = false) ∨ ((E == 0) = false ∧ canonB h = false)) := by
  by_cases c1 : 256 < h.length
  · rw [if_pos c1]
    refine ⟨_, _, rfl, .inr (.inr ⟨rfl, ?_⟩)⟩
    cases hc : canonB h with
    | false => rfl
    | true => exact absurd (canon_len hc) (by omega)
  · rw [if_neg c1]
    cases hc : canonB h with
    | true =>
      rw [map_low_host hc, if_pos hc]
      exact ⟨_, _, rfl, .inl ⟨rfl, rfl, rfl⟩⟩
    | false =>
      cases hc2 : canonB (h.map low) with
      | false => exact ⟨_, _, if_neg Bool.false_ne_true, .inr (.inr ⟨rfl, rfl⟩)⟩
      | true =>
        refine ⟨_, _, if_pos rfl, .inr (.inl ⟨rfl, ?_, rfl⟩)⟩
        rw [beq_eq_false_iff_ne]
        intro e
        rw [e, hc] at hc2
        cases hc2
theorem slash_head (l : List UInt8) : Lib.hasPrefix l [47] = decide (l.getD 0 0 = 47) := by
  cases l with
  | nil => rfl
  | cons x t =>
    show ((47 : UInt8) == x && true) = decide (x = 47)
    rw [Bool.and_true, Bool.eq_iff_iff, decide_eq_true_iff, beq_iff_eq]
    exact eq_comm
theorem headSlashC (l : List UInt8) (w : World) :
    Calls Tryz.prog 212 #[.string (str l), .string ⟨#[47]⟩] w fun e w' => e = .returned (.bool (decide (l.getD 0 0 = 47))) ∧ w = w' := by
  refine (Tryz.strings_HasPrefix (str l) ⟨#[47]⟩ w).mono ?_
  rintro e w' ⟨rfl, rfl⟩
  rw [str_data, ← slash_head]
  exact ⟨rfl, rfl⟩
theorem withinC (n a b : Int) (w : World) :
    Calls Tryz.prog 213 #[.int .i64 n, .int .i64 a, .int .i64 b] w fun e w' => e = .returned (.bool (decide (a ≤ n) && decide (n ≤ b))) ∧ w = w' := by
  by_cases h1 : a ≤ n
  · rw [decide_eq_true h1, Bool.true_and]
    by_cases h2 : n ≤ b
    · rw [decide_eq_true h2]
      go_enter Tryz.func213, Tryz.ntmps213
      go_wp2
      go_ret
      exact ⟨rfl, rfl⟩
    · rw [decide_eq_false h2]
      go_enter Tryz.func213, Tryz.ntmps213
      go_wp2
      go_ret
      exact ⟨rfl, rfl⟩
  · rw [decide_eq_false h1, Bool.false_and]
    go_enter Tryz.func213, Tryz.ntmps213
    go_wp2
    go_ret
    exact ⟨rfl, rfl⟩
theorem canonicalC (s : List UInt8) (n : Nat) (w : World) (hl : s.length = n) (hm : n ≤ 100000) (hT : PTab Tryz.prog w) :
    Calls Tryz.prog 211 #[.string (str s)] w fun e w' => e = .returned (.bool (canonB s)) ∧ Below w.heap.size w w' := by
  obtain ⟨X, E, hXE, hcase⟩ := canon_self s
  have HC := canonC s n w hl (by unfold maxLen; omega) hT
  unfold CanonIs at HC
  simp only [hXE] at HC
  have hk := str_toList
  clear hXE hl hT
  rcases hcase with ⟨rfl, rfl, hcb⟩ | ⟨rfl, hX, hcb⟩ | ⟨hE, hcb⟩
  · rw [hcb]
    clear hcb
    go_enter Tryz.func211, Tryz.ntmps211
    go_wp2_with (go_at_call 230; (with_reducible refine HC.mono ?_); rintro e w1 ⟨rfl, hb⟩)
    go_ret
    exact ⟨rfl, hb⟩
  · rw [hcb]
    clear hcb
    go_enter Tryz.func211, Tryz.ntmps211
    go_wp2_with (go_at_call 230; (with_reducible refine HC.mono ?_); rintro e w1 ⟨rfl, hb⟩)
    go_ret
    exact ⟨rfl, hb⟩
  · rw [hcb]
    clear hcb
    go_enter Tryz.func211, Tryz.ntmps211
    go_wp2_with (go_at_call 230; (with_reducible refine HC.mono ?_); rintro e w1 ⟨rfl, hb⟩)
    go_ret
    exact ⟨rfl, hb⟩
def partB (s S : List UInt8) (n : Nat) (most : Int) : Bool :=
  decide ((n : Int) ≤ most) && (!s.any ctl && ((trimL s == s) && S.all (fun c => decide (s.findIdx (· == c) = n))))
set_option maxRecDepth 100000 in
theorem partC (s S : List UInt8) (n m g : Nat) (most : Int) (w : World) (hl : s.length = n) (hm : n ≤ 100000) (hS : S.length = m) (hm2 : m ≤ 100) (hr : Reads w (some ⟨g, 0, none⟩) (S.map (fun c => Value.int .u8 (c.toNat : Int)))) :
    Calls Tryz.prog 210 #[.string (str s), .int .i64 most, .slice (some ⟨g, 0, none⟩) m m] w fun e w' => e = .returned (.bool (partB s S n most)) ∧ w = w' := by
  have hsz : (str s).size = n := by rw [str_size, hl]
  have hk := str_toList
  have H1 := fun w => controlC s n w hl (by unfold maxLen; omega)
  have H2 := fun w => trimC s n w hl (by unfold maxLen; omega)
  have HB := fun c w => byteC s c w
  simp only [byte_find, hl] at HB
  unfold partB
  by_cases h1 : (n : Int) ≤ most
  · have h1' : ¬ most < (n : Int) := by omega
    rw [decide_eq_true h1, Bool.true_and]
    cases hc : s.any ctl with
    | true =>
      rw [hc] at H1
      clear hc
      rw [Bool.not_true, Bool.false_and]
      clear hl hr HB H2
      go_enter Tryz.func210, Tryz.ntmps210
      go_wp2_with (go_at_call 227; (with_reducible refine (H1 _).mono ?_); rintro e w1 ⟨rfl, rfl⟩)
      go_ret
      exact ⟨rfl, rfl⟩
    | false =>
      rw [hc] at H1
      clear hc
      rw [Bool.not_false, Bool.true_and]
      cases ht : trimL s == s with
      | false =>
        have ht2 : (trimL s != s) = true := by rw [bne, ht]; rfl
        rw [Bool.false_and]
        generalize trimL s = t at *
        clear hl hr HB
        go_enter Tryz.func210, Tryz.ntmps210
        go_wp2_with (first
          | (go_at_call 227; (with_reducible refine (H1 _).mono ?_); rintro e w1 ⟨rfl, rfl⟩)
          | (go_at_call 228; (with_reducible refine (H2 _).mono ?_); rintro e w1 ⟨rfl, rfl⟩))
        go_ret
        exact ⟨rfl, rfl⟩
      | true =>
        rw [Bool.true_and]
        rw [eq_of_beq ht] at H2
        clear ht
        obtain ⟨P, hP⟩ : ∃ P : Nat → Bool, ∀ j, decide (s.findIdx (· == S.getD j 0) = n) = P j := ⟨_, fun _ => rfl⟩
        have hall : Hid (∀ b, (∀ j, j < m → P j = true) → b = true → S.all (fun c => decide (s.findIdx (· == c) = n)) = b) := fun b h hb => by
          rw [hb, List.all_eq_true]
          intro c hc
          obtain ⟨j, hj, rfl⟩ := List.mem_iff_getElem.1 hc
          have := h j (by omega)
          rw [← hP, List.getD_eq_getElem?_getD, List.getElem?_eq_getElem hj] at this
          exact this
        have hone : Hid (∀ j, j < m → P j = false → S.all (fun c => decide (s.findIdx (· == c) = n)) = false) := fun j hj h => by
          rw [List.all_eq_false]
          have hj' : j < S.length := by omega
          refine ⟨S[j], List.getElem_mem hj', ?_⟩
          rw [← hP, List.getD_eq_getElem?_getD, List.getElem?_eq_getElem hj'] at h
          rw [show decide (s.findIdx (· == S[j]) = n) = false from h]
          decide
        have hcell : Hid (∀ k, k < m → w.cell? ⟨g, k, none⟩ = some (.int .u8 ((S.getD k 0).toNat : Int))) := fun k hk => by
          obtain ⟨B, off, hB, hx⟩ := hr k (.int .u8 ((S.getD k 0).toNat : Int)) (by rw [List.getElem?_map, List.getElem?_eq_getElem (by omega), Option.map_some, List.getD_eq_getElem?_getD, List.getElem?_eq_getElem (by omega)]; rfl)
          cases hB
          rw [Nat.zero_add] at hx
          exact hx
        have HBt : ∀ j w, P j = true → Calls Tryz.prog 229 #[.string (str s), .int .u8 ((S.getD j 0).toNat : Int)] w fun e w' => e = .returned (.int .i64 (-1)) ∧ w = w' := fun j w h => by
          have := HB (S.getD j 0) w
          rw [if_pos (of_decide_eq_true ((hP j).trans h))] at this
          exact this
        have HBf : ∀ j w, P j = false → ∃ F : Int, 0 ≤ F ∧ Calls Tryz.prog 229 #[.string (str s), .int .u8 ((S.getD j 0).toNat : Int)] w fun e w' => e = .returned (.int .i64 F) ∧ w = w' := fun j w h => by
          have := HB (S.getD j 0) w
          rw [if_neg (of_decide_eq_false ((hP j).trans h))] at this
          exact ⟨_, by omega, this⟩
        obtain ⟨res, hres⟩ : ∃ r, S.all (fun c => decide (s.findIdx (· == c) = n)) = r := ⟨_, rfl⟩
        rw [hres] at hone hall ⊢
        clear hP hr HB hS hl hres
        go_enter Tryz.func210, Tryz.ntmps210
        go_wp2_with (first
          | (go_at_call 227; (with_reducible refine (H1 _).mono ?_); rintro e w1 ⟨rfl, rfl⟩)
          | (go_at_call 228; (with_reducible refine (H2 _).mono ?_); rintro e w1 ⟨rfl, rfl⟩))
        go_loopw [25] (fun i wr => ∃ k : Nat, k ≤ m ∧ i = .int .i64 (k : Int) ∧ Hid (∀ j, j < k → P j = true) ∧ w = wr) (fun i _ => m - (intOf i).toNat)
        case atStart => exact ⟨0, Nat.zero_le _, rfl, fun j h => absurd h (Nat.not_lt_zero _), rfl⟩
        case round =>
          obtain ⟨k, hkm, rfl, hH, rfl⟩ := hrel
          by_cases hlt : k < m
          · have hlt' : (k : Int) < (m : Int) := by omega
            have c0 := hcell.out k hlt
            cases hp : P k with
            | true =>
              have HX := fun w => HBt k w hp
              have hH2 : Hid (∀ j, j < k + 1 → P j = true) := fun j hj => by
                rcases Nat.lt_succ_iff_lt_or_eq.1 hj with h | rfl
                · exact hH.out j h
                · exact hp
              generalize (S.getD k 0).toNat = x at *
              clear HBt HBf hH hp hone hall hcell H1 H2
              go_wp2_with (go_at_call 229; (with_reducible refine (HX _).mono ?_); rintro e w1 ⟨rfl, rfl⟩)
              go_roundw
              case rel => exact ⟨k + 1, by omega, by go_num, hH2, by first | rfl | trivial⟩
              case measure => simp [intOf]; omega
            | false =>
              obtain ⟨F, hF, HX⟩ := HBf k w hp
              have hr2 := hone.out k hlt hp
              generalize (S.getD k 0).toNat = x at *
              clear HBt HBf hH hone hall hcell H1 H2 hp
              go_wp2_with (go_at_call 229; (with_reducible refine HX.mono ?_); rintro e w1 ⟨rfl, rfl⟩)
              go_ret
              exact ⟨by rw [hr2]; rfl, rfl⟩
          · obtain rfl : k = m := by omega
            have hr2 := hall.out true hH.out rfl
            clear HBt HBf hH hone hall hcell H1 H2
            go_wp2
            go_ret
            exact ⟨by rw [hr2]; rfl, rfl⟩
  · have h1' : most < (n : Int) := by omega
    rw [decide_eq_false h1, Bool.false_and]
    clear hl hr HB H2 H1
    go_enter Tryz.func210, Tryz.ntmps210
    go_wp2
    go_ret
    exact ⟨rfl, rfl⟩
set_option maxRecDepth 100000 in
theorem vJoinI {v2 : Value} {m2 : Option Nat} {G : Nat → Prop} {m : List DotN} (p k : Nat) (vs : List Value) (mv : Option Nat) (l : List DotN) (w : World) (h : VecIn w p k vs mv l) (h2 : ArgV w v2 m2 G m) (hd : ∀ b, (b = p ∨ mv = some b) → ¬ G b) :
    Calls Tryz.prog 119 #[.pointer (some ⟨p, k, none⟩), v2] w (RaisedI p k vs mv (joinV l m) (.tuple #[]) w) := by
  have HA := vAllC h2
  have hE := fun v ww (hb : Below w.heap.size w ww) => RaisedI.same (v := v) h hb
  have hlt := h.lt
  have hok := h.ok
  have hmo := h2.ok
  have hset := set_as h.here
  obtain ⟨F, hF⟩ : ∃ F : Nat → Prop, (fun b => b = p ∨ mv = some b) = F := ⟨_, rfl⟩
  have hFp : F p := by rw [← hF]; exact .inl rfl
  have hFm : ∀ b, mv = some b → F b := fun b e => by rw [← hF]; exact .inr e
  replace hlt : ∀ b, F b → b < w.heap.size := by rw [← hF]; exact hlt
  replace hd : ∀ b, F b → ¬ G b := by rw [← hF]; exact hd
  have HR0 := fun (mv' : Option Nat) (L : List DotN) (x : DotN) ww (hv : VecIn ww p k (vs.set k (.map mv')) mv' L) (hx : FitD x) => vRaiseI p k (vs.set k (.map mv')) mv' L x ww hv hx
  unfold RaisedI at hE HR0 ⊢
  rw [hF] at hE ⊢
  rcases h2.nums with ⟨rfl, rfl⟩ | ⟨B, n, D, rfl, hB, hm, hD⟩
  · have hrg := run_range_nilMap (P := Tryz.prog) w 99 33 3 Tryz.underlying99
    have hnx : ∀ ty, (Instr.next (.pointer (some ⟨w.heap.size, 0, none⟩)) false ty).run Tryz.prog (w.alloc (.mapIter none 0 #[] 0)) = _ := fun ty => run_next_nilMap _ ty 0 0 #[]
    have hb := below_alloc w (.mapIter none 0 #[] 0)
    have hE1 := hE (.tuple #[]) _ hb
    clear h h2 HR0
    go_enter Tryz.func119, Tryz.ntmps119
    go_wp2_with (go_at_call 113; (with_reducible refine HA.mono ?_); rintro e w1 ⟨rfl, rfl⟩)
    refine wp_loop_rounds 1 ?_
    rw [rounds_succ]
    go_wp2
    go_end0
    exact ⟨rfl, hE1.2⟩
  · have hBl := hm.lt
    have hBF : ¬ F B := fun c => hd B c hB
    go_enter Tryz.func119, Tryz.ntmps119
    go_wp2_with (first
      | (go_at_call 113; (with_reducible refine HA.mono ?_); rintro e w1 ⟨rfl, rfl⟩)
      | (at_range; refine wpList_range_own _ rfl _ 99 rfl 33 3 keyedActor Tryz.underlying99 _ B n _ rfl hm ?_; intro w0 hrg0 hg0 hs0))
    go_frame
    go_loopw [5] (fun _ wr => ∃ (left : Lit → Bool) (cnt : Nat) (R : List DotN) (mv' : Option Nat), wr.ranges Tryz.prog 33 (plainElem Tryz.prog 3) B w.heap.size n D left cnt ∧ MetV m left R ∧ VecIn wr p k (vs.set k (.map mv')) mv' (joinV l R) ∧ Keeps F w wr ∧ (mv' = mv ∨ ∃ b, mv' = some b ∧ w.heap.size < b))
      (fun _ wr => wr.rangeLeft B w.heap.size)
    case atStart =>
      have k0 := (Keeps.ofGrownBy hg0).mono (G := fun _ => False) (fun k _ e => by cases e)
      exact ⟨_, _, [], mv, hrg0, MetV.start hD hmo, by rw [hset]; exact h.keeps k0 (fun h => h) (fun _ _ h => h), k0.mono (fun _ _ h => h.elim), .inl rfl⟩
    case round =>
      obtain ⟨left, cnt, R, mv', hrg, hmet, hv, hk, hF'⟩ := hrel
      clear hrg0 hg0 hs0 HA hE h h2
      have hF2 : ∀ b, mv' = some b → F b ∨ w.heap.size < b := fun b e => by
        rcases hF' with c | ⟨b2, c, hb2⟩
        · exact .inl (hFm b (c ▸ e))
        · rw [c] at e
          cases e
          exact .inr hb2
      go_wp2_with (first
        | (at_next; refine wpList_next_actors rfl rfl _ rfl B w.heap.size n D _ _ rfl hrg ?_ ?_))
      · intro hc0 hl0
        go_wp2
        go_end0
        have e := join_any hok (hmet.all hl0)
        exact ⟨rfl, mv', e ▸ hv, hk, hF'.imp id fun ⟨b, c, hb2⟩ => ⟨b, c, Nat.le_of_lt hb2⟩⟩
      · intro d i c w1 cnt1 hfd hfi hlk hat hrg1 hlt1 hg1 hs1 hen
        obtain ⟨hmem, hmet1⟩ := hmet.step hD hmo hfd hfi hlk hat
        have hright := hmo.right _ hmem
        have hfc : is64 c := by have := right_range hright; unfold is64; dsimp only at this; omega
        have k1 := Keeps.ofGrownBy hg1
        have hv1 := hv.keeps k1 (fun e => by have := Option.some.inj e; have := hlt p hFp; omega) (fun b hb1 e => by have := Option.some.inj e; exact (hF2 b hb1).elim (fun c => by have := hlt b c; omega) (fun c => by omega))
        have kk1 := hk.trans k1 (fun b hk1 e => by have := Option.some.inj e; omega)
        have oa := ObjAt.new w1 #[.int .i64 d, .int .i64 i] 33
        have ba := below_alloc w1 (.cells #[.int .i64 d, .int .i64 i] 33)
        have hv2 := hv1.below ba
        have hrg2 := hrg1.alloc (.cells #[.int .i64 d, .int .i64 i] 33)
        have kk2 := kk1.trans (Keeps.new (F := F) ba) (fun _ _ h => h)
        have u0 := oa.cell 0 rfl; have u1 := oa.cell 1 rfl
        have HR := fun ww hv => HR0 mv' (joinV l R) ⟨d, i, c⟩ ww hv ⟨hfd, hfi, hfc⟩
        simp only [← joinV_snoc, List.set_set] at HR
        have hlt2 := Nat.lt_trans hrg1.lt oa.lt
        clear hk hv hv1 hrg1 hmet hright hfc HR0
        go_wp2_with (go_at_call 114; (with_reducible refine (HR _ hv2).mono ?_); rintro e w3 ⟨rfl, m3, hv3, k3, hn3⟩)
        have hrg3 := k3.ranges (b := B) (r := w.heap.size) (fun c => c.elim (fun e => hBF (e ▸ hFp)) (fun e => (hF2 _ e).elim hBF (fun h => by omega))) (fun c => c.elim (fun e => by have := hlt p hFp; omega) (fun e => (hF2 _ e).elim (fun h => by have := hlt _ h; omega) (fun h => by omega))) hrg2
        go_roundw
        case rel =>
          refine ⟨_, cnt1, _, m3, hrg3, hmet1, hv3, kk2.trans k3 (fun b hk1 h => h.elim (fun e => e ▸ hFp) (fun e => (hF2 b e).elim id (fun h => by omega))), ?_⟩
          rcases hn3 with rfl | ⟨b, e, hb3⟩
          · exact hF'
          · exact .inr ⟨b, e, Nat.lt_of_lt_of_le hlt2 hb3⟩
        case measure => rw [hrg3.left_eq, hrg.left_eq]; exact hlt1
end Go.Proofs.YtaodjnkjjmhecaaGreatDoor
