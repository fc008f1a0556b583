/- Contracts and plain words that the laws' proofs stand on. -/
import Derived.Test.YtaodjnkjjmhecaaGreatDoorLibAE
import Derived.Test.YtaodjnkjjmhecaaGreatDoorLibBG
namespace Go.Proofs.YtaodjnkjjmhecaaGreatDoor
set_option linter.unusedVariables false
theorem rightT_iff {s : StampN} : rightT s = true ↔ 0 ≤ s.wall ∧ s.wall ≤ 4398046511104 ∧ 0 ≤ s.count ∧ s.count ≤ 65535 ∧ 0 ≤ s.dev ∧ s.dev ≤ 63 := by
  unfold rightT
  simp only [Bool.and_eq_true, decide_eq_true_iff]
end Go.Proofs.YtaodjnkjjmhecaaGreatDoor
namespace Go.Proofs.YtaodjnkjjmhecaaGreatDoor
open Go.RowKit
set_option linter.unusedVariables false
def EventN.none : EventN := ⟨⟨0, 0, 0⟩, ⟨0, 0, 0⟩, 0, ItemL.none, []⟩
def aliveM (m : MapN) : List EventN := m.kept.filter fun e => e.kind == 1 && !hasD m.dead e.dot
def keyM (m : MapN) (k : ItemL) : List EventN := (aliveM m).filter fun e => sameKey e.item k
def bestM (b : Option EventN) (e : EventN) : Option EventN :=
  match b with
  | none => some e
  | some x => if lessT e.stamp x.stamp = true then some x else some e
def winnerM (m : MapN) (k : ItemL) : Option EventN := (keyM m k).foldl bestM none
theorem objs2 (w : World) (A B : Array Value) (a b : TypeId) : ObjAt ((w.alloc (.cells A a)).alloc (.cells B b)) w.heap.size A.toList ∧ ObjAt ((w.alloc (.cells A a)).alloc (.cells B b)) (w.heap.size + 1) B.toList ∧ Below w.heap.size w ((w.alloc (.cells A a)).alloc (.cells B b)) := by
  have h1 := below_alloc w (.cells A a)
  have h2 := below_alloc (w.alloc (.cells A a)) (.cells B b)
  have o1 := ObjAt.new w A a
  have o2 := ObjAt.new (w.alloc (.cells A a)) B b
  rw [World.size_alloc] at o2
  exact ⟨o1.below h2 o1.lt, o2, h1.trans (h2.mono h1.size)⟩
theorem sameKey_iff {a b : ItemL} : sameKey a b = true ↔ kOf a = kOf b := by
  unfold sameKey kOf
  simp only [Bool.and_eq_true, beq_iff_eq, Prod.mk.injEq]
theorem alive_is (m : MapN) : aliveM m = m.kept.filter (aliveB m.dead) := rfl
theorem one_dot {K : List EventN} (h : SortedE K) {e f : EventN} (he : e ∈ K) (hf : f ∈ K) (hd : e.dot = f.dot) : e = f := by
  have hn := sortedD_nodup (sortedE_dots h)
  obtain ⟨i, hi, rfl⟩ := List.mem_iff_getElem.1 he
  obtain ⟨j, hj, rfl⟩ := List.mem_iff_getElem.1 hf
  have e1 : (K.map (·.dot))[i]'(by simpa using hi) = (K.map (·.dot))[j]'(by simpa using hj) := by simpa using hd
  have := (List.getElem_inj hn).1 e1
  subst this
  rfl
theorem ObjAt.setOther {w : World} {b g : Nat} {vs : List Value} (h : ObjAt w b vs) (hne : b ≠ g) (A : Array Value) : ObjAt (w.setRow g A) b vs := by
  obtain ⟨e, h⟩ := h.heap
  exact ⟨e, by rw [setRow_other w g b A hne]; exact h⟩
theorem step_storeOver {P : Program} {ops : Array Oper} {o : Oper} {a : Act} {w : World} {K : Act → World → Prop} {E : Prop} {Q : Exit → Act → World → Prop} (hgd : o.guard = none) (ty : TypeId) (x y : Operand) (ho : o.op = .store ty x y) (g : Nat) (vs : List Value) (A : Array Value) (n : Nat)
    (hx : a.eval x = .pointer (some ⟨g, 0, none⟩)) (hy : a.eval y = .agg A) (hg : ObjAt w g vs) (hi : (P.info? ty).map (·.size) = some n) (hold : vs.length = n) (hn : A.size = n) (h1 : A.all (·.oneCell') = true)
    (h : K (a.put o.dst undef) (w.setRow g A)) : if Region.wanted o (yielded ops a.tmps) = true then Oper.wp P o a w K Q else E := by
  rw [if_pos (by simp [Region.wanted, hgd])]
  obtain ⟨t, ht⟩ := hg.heap
  exact wp_store_row ty x y ho g A hx hy t vs.toArray ht (by rw [hi, hn]) (by rw [List.size_toArray, hold, hn]) h1 h
theorem results_big2 {P : Program} {w : World} {fn : Func} {tmps : Array Value} {a b : Tmp} {t : TypeId} {g : Nat} {x v : Value} (hr : fn.results = #[.cell a t, .tmp b]) (ha : tmps.getD a undef = .pointer (some ⟨g, 0, none⟩)) (hb : tmps.getD b undef = v) (hl : (loadVar t ⟨g, 0, none⟩).run P w = .ok x w) : (results fn tmps).run P w = .ok (.tuple #[x, v]) w := by
  rw [Array.getD_eq_getD_getElem?] at ha hb
  simp [results, hr, ha, hb, hl, asAddr, Result.andThen]
end Go.Proofs.YtaodjnkjjmhecaaGreatDoor
namespace Go.Proofs.YtaodjnkjjmhecaaGreatDoor
open Go.RowKit
set_option linter.unusedVariables false
set_option linter.unusedSimpArgs false
set_option maxRecDepth 100000 in
set_option maxHeartbeats 2000000 in
theorem mDeadA {w : World} {v : Value} {m : MapN} (h : ArgM w v m) (d : DotN) (hd : FitD d) : Calls Tryz.prog 38 #[v, .agg #[.int .i64 d.dev, .int .i64 d.inc, .int .i64 d.seq]] w fun en w' => en = .returned (.bool (hasD m.dead d)) ∧ Below w.heap.size w w' := by
  have HO := fun ww (ha : ArgM ww v m) => mOrNewI ha
  have HL := fun ww p B rs (hR : Real ww p B rs m) vv (e : vv.heap = ww.heap) => hR.dead.look hd vv e
  obtain ⟨dev, inc, seq⟩ := d
  dsimp only at *
  have o1 := ObjAt.new w #[.int .i64 dev, .int .i64 inc, .int .i64 seq] 35
  have b1 := below_alloc w (.cells #[.int .i64 dev, .int .i64 inc, .int .i64 seq] 35)
  have ha1 := h.below b1
  generalize hw1 : w.alloc (.cells #[.int .i64 dev, .int .i64 inc, .int .i64 seq] 35) = w1 at *
  have l1 := o1.lt
  have hS0 : ∀ v, Below w1.heap.size w1 v → v.cell? ⟨w.heap.size, 0, none⟩ = some (.int .i64 dev) ∧ v.cell? ⟨w.heap.size, 1, none⟩ = some (.int .i64 inc) ∧ v.cell? ⟨w.heap.size, 2, none⟩ = some (.int .i64 seq) := fun v hv => ⟨(o1.below hv l1).cell 0 rfl, (o1.below hv l1).cell 1 rfl, (o1.below hv l1).cell 2 rfl⟩
  have hB1 : Below w1.heap.size w1 w1.drew := (Below.refl _ _).drew
  have hA := hB1
  have hB : Below w1.heap.size w1 (w1.drew.alloc (.cells #[] 123)) := hB1.trans ((below_alloc w1.drew (.cells #[] 123)).mono (Nat.le_refl _))
  have hC : Below w1.heap.size w1 (w1.alloc (.cells #[] 123)).drew := (below_alloc w1 (.cells #[] 123)).drew
  clear hB1
  generalize hasD m.dead ⟨dev, inc, seq⟩ = t at *
  obtain ⟨s0, s1, s2⟩ := hS0 w1 (Below.refl _ _)
  go_enter Tryz.func38, Tryz.ntmps38
  go_wp2_with fail
  go_region_law ((try go_simp); go_at_call 73; (first | (refine (HO _ (ha1.below hA)).mono ?_; have hX := hA) | (refine (HO _ (ha1.below hB)).mono ?_; have hX := hB) | (refine (HO _ (ha1.below hC)).mono ?_; have hX := hC)); rintro e w2 ⟨p, B, rs, rfl, hR, hx⟩; have hX := hX.trans (hx.mono hX.size); obtain ⟨y0, y1, y2⟩ := hS0 _ hX; have c2 := hR.obj.cell 2 rfl; have hE := below_alloc w2 (.cells #[] 123); obtain ⟨z0, z1, z2⟩ := hS0 _ (hX.trans (hE.mono hX.size)); have c3 := (hR.below hE).obj.cell 2 rfl; have HLa := HL _ p B rs hR; have HLb := HL _ p B rs (hR.below hE); clear hx hR)
  all_goals (
    go_wp2
    go_ret
    first
      | exact ⟨rfl, b1.trans (hX.mono b1.size)⟩
      | exact ⟨rfl, b1.trans ((hX.trans (hE.mono hX.size)).mono b1.size)⟩)
end Go.Proofs.YtaodjnkjjmhecaaGreatDoor
namespace Go.Proofs.YtaodjnkjjmhecaaGreatDoor
open Go.RowKit
set_option linter.unusedVariables false
theorem encO_size (b : Option EvR) : (encO b).toArray.size = 19 := by rcases b with _ | r <;> rfl
structure FitT (s : StampN) : Prop where
  wall : -9223372036854775808 ≤ s.wall ∧ s.wall ≤ 9223372036854775807
  count : -9223372036854775808 ≤ s.count ∧ s.count ≤ 9223372036854775807
  dev : -9223372036854775808 ≤ s.dev ∧ s.dev ≤ 9223372036854775807
def orN (a b c : Int) : Int := if a ≠ 0 then a else if b ≠ 0 then b else c
theorem or_less (s t : StampN) : decide (orN (cmpN s.wall t.wall) (cmpN s.count t.count) (cmpN s.dev t.dev) < 0) = lessT s t := by
  unfold lessT orN cmpN
  repeat' split
  all_goals first | omega | (simp; omega) | simp_all
end Go.Proofs.YtaodjnkjjmhecaaGreatDoor
namespace Go.Proofs.YtaodjnkjjmhecaaGreatDoor
open Go.RowKit Go.Shelf
set_option linter.unusedVariables false
theorem collectS {w : World} {Bm : Nat} {mv : Option Nat} {E : List DotN} (h : SetIs w mv E) (hc : w.cell? ⟨Bm, 0, none⟩ = some (.map mv)) (hs : SortedD E) (hf : ∀ x ∈ E, FitD x) (hn : E.length ≤ 100000) :
    Calls Tryz.prog 84 #[.func (.func 121) #[] #[.pointer (some ⟨Bm, 0, none⟩)]] w fun e w' => ∃ L k, GivesZ encD 3 35 L k w e w' ∧ k ≤ 100000 ∧ sortD L = E ∧ (∀ x ∈ L, FitD x) ∧ ∀ x ∈ L, x ∈ E := by
  obtain ⟨D, hM, hD, hT⟩ := h.mapC
  have hhas : ∀ x : DF, Go.Maps.has D (litD x) = true ↔ x.1 ∈ E := fun x => by
    rw [show Go.Maps.has D (litD x) = hasD E x.1 from hD.has x.1 x.2]
    exact hasD_iff
  have hlen : ∀ xs : List DF, xs.Nodup → (∀ x ∈ xs, Go.Maps.has D (litD x) = true) → xs.length ≤ 100000 := fun xs h1 h2 => by
    have h3 : (xs.map (·.1)).length ≤ E.length := nodup_most1 (List.Pairwise.map _ (fun a b hab c => hab (Subtype.ext c)) h1) fun x hx => by
      obtain ⟨y, hy, rfl⟩ := List.mem_map.1 hx
      exact (hhas y).1 (h2 y hy)
    rw [List.length_map] at h3
    omega
  refine (collectD 121 #[.pointer (some ⟨Bm, 0, none⟩)] (fun k => k = Bm ∨ mv = some k) _ _ w (fun m hm => keysEachS m Bm mv D w hm hc hM) (enters_of Tryz.func121 (by kernel_rfl) rfl) (fun k hk => ?_) (fun xs hx => ?_)).mono ?_
  · rcases hk with rfl | hk
    · exact cell_lt hc
    · exact (h.blk k hk).lt
  · have := hlen xs hx.1 hx.2
    omega
  · rintro e w' ⟨xs, k, hS, hG⟩
    have hk : k = (xs.map (·.1)).length := by
      obtain ⟨a, c, -, hz, -⟩ := hG
      exact hz.2.1.symm
    have hmem : ∀ x, x ∈ xs.map (·.1) ↔ x ∈ E := fun x => by
      rw [List.mem_map]
      constructor
      · rintro ⟨y, hy, rfl⟩
        exact (hhas y).1 ((hS.2 y).1 hy)
      · intro hx
        exact ⟨⟨x, hf x hx⟩, (hS.2 _).2 ((hhas _).2 hx), rfl⟩
    refine ⟨_, k, hG, ?_, ?_, fun x hx => hf x ((hmem x).1 hx), fun x hx => (hmem x).1 hx⟩
    · rw [hk, List.length_map]
      exact hlen xs hS.1 (fun x hx => (hS.2 x).1 hx)
    · refine sorted_unique (sortD_sorted _) hs fun x => ?_
      rw [sortD_mem, hmem]
end Go.Proofs.YtaodjnkjjmhecaaGreatDoor
namespace Go.Proofs.YtaodjnkjjmhecaaGreatDoor
open Go.RowKit Go.Shelf
set_option linter.unusedVariables false
set_option linter.unusedSimpArgs false
theorem wpList_next_heldK {P : Program} (hP : P = Tryz.prog) {w : World} {ops : Array Oper} {rest : List Oper} {o : Oper} {a : Act} {Q : Exit → Act → World → Prop} (hg : o.guard = none) (it : Operand) (hop : o.op = Op.next it false) (b r n : Nat) (D : DataW Value) (left : Lit → Bool) (cnt : Nat)
    (hit : a.eval it = .pointer (some ⟨r, 0, none⟩)) (h : w.ranges P 39 heldElem b r n D left cnt)
    (hDone : cnt = 0 → (∀ kl, left kl = false) → wpList P ops Q rest (a.put o.dst (.tuple #[.bool false])) w)
    (hMore : ∀ (x : KF) (v : Value) (w' : World) (cnt' : Nat), left (litK x) = true → (∀ zd, D.atKey (litK x) zd = .held v) → w'.ranges P 39 heldElem b r n D (fun z => left z && !z.sameKey (litK x)) cnt' → cnt' < cnt →
      w.grownBy w' (some r) → w'.heap.size = w.heap.size → (Instr.entry (.pointer (some ⟨r, 0, none⟩))).run P w' = .ok (.tuple #[.agg #[.string (str x.1.1), .string (str x.1.2.1), .string (str x.1.2.2)], v]) w' → wpList P ops Q rest (a.put o.dst (.tuple #[.bool true, .agg #[.string (str x.1.1), .string (str x.1.2.1), .string (str x.1.2.2)], v])) w') :
    wpList P ops Q (o :: rest) a w := by
  subst hP
  refine wpList_next_ranges (α := KF) (β := Value) w hg it hop 39 keyedKey heldElem (fun x => valKey x.1) (fun v => v) (fun key kl hkey => ?_) (fun v y hv => ⟨v, rfl⟩) b r n D left cnt hit h hDone (fun x v kl y w' cnt' hkey hlk hv hat hrg hlt hgr hsz hen => ?_)
  · obtain ⟨x, e, _⟩ := is_key hkey
    exact ⟨x, e⟩
  · obtain ⟨x', ex, rfl⟩ := is_key hkey
    have hy := held_inv (d := y.1) (ps := y.2) hv
    have exx : x = x' := Subtype.ext (valKey_inj ex)
    subst exx
    exact hMore x v w' cnt' hlk (fun zd => (hat zd).trans hy) hrg hlt hgr hsz hen
theorem own_not_map {α : Type} {enc : α → List Value} {z base : Nat} {e : TypeId} {a : Option Addr} {n c : Nat} {P : List α} {w : World} (h : OwnZ enc z base e a n c P w) {k : Nat} (hk : At a k) (hm : MapBlk w k) : False := by
  obtain ⟨es, cl, hb⟩ := hm
  rcases h.1.2 with ⟨hv, _⟩ | ⟨g, cap, cur, hv, hb2, hg, _⟩
  · cases hv
    exact absurd hk (at_none k)
  · cases hv
    have e1 : g = k := at_some.1 hk
    subst e1
    rw [hg] at hb
    cases hb
theorem appendS {w : World} {Bm : Nat} {mv : Option Nat} {E : List DotN} (base : Nat) (a : Option Addr) (n c : Nat) (L : List DotN) (hown : OwnZ encD 3 base 35 a n c L w) (hbase : base ≤ w.heap.size) (h : SetIs w mv E) (hc : w.cell? ⟨Bm, 0, none⟩ = some (.map mv)) (hf : ∀ x ∈ E, FitD x) (hn : E.length ≤ 100000) (hn2 : n ≤ 100000) (hBm : ¬ At a Bm) :
    Calls Tryz.prog 89 #[.slice a n c, .func (.func 121) #[] #[.pointer (some ⟨Bm, 0, none⟩)]] w fun e w' => ∃ L2 q k c', e = .returned (.slice q k c') ∧ AppTo encD 3 base 35 a (L ++ L2) w q k c' w' ∧ L2.Nodup ∧ ∀ x, x ∈ L2 ↔ x ∈ E := by
  obtain ⟨D, hM, hD, hT⟩ := h.mapC
  have hhas : ∀ x : DF, Go.Maps.has D (litD x) = true ↔ x.1 ∈ E := fun x => by
    rw [show Go.Maps.has D (litD x) = hasD E x.1 from hD.has x.1 x.2]
    exact hasD_iff
  have hlen : ∀ xs : List DF, xs.Nodup → (∀ x ∈ xs, Go.Maps.has D (litD x) = true) → xs.length ≤ 100000 := fun xs h1 h2 => by
    have h3 : (xs.map (·.1)).length ≤ E.length := nodup_most1 (List.Pairwise.map _ (fun a b hab c => hab (Subtype.ext c)) h1) fun x hx => by
      obtain ⟨y, hy, rfl⟩ := List.mem_map.1 hx
      exact (hhas y).1 (h2 y hy)
    rw [List.length_map] at h3
    omega
  have hau := own_user hown
  refine (appSeqD base a n c L 121 #[.pointer (some ⟨Bm, 0, none⟩)] (fun k => k = Bm ∨ mv = some k) _ _ w hown hbase (fun m hm => keysEachS m Bm mv D w hm hc hM) (enters_of Tryz.func121 (by kernel_rfl) rfl) (fun k hk => ?_) (fun xs hx => ?_)).mono ?_
  · rcases hk with rfl | hk
    · exact ⟨cell_lt hc, hBm⟩
    · exact ⟨(h.blk k hk).lt, fun hat => own_not_map hown hat (h.blk k hk)⟩
  · have := hlen xs hx.1 hx.2
    omega
  · rintro e w' ⟨xs, q, k, c', hS, rfl, hA⟩
    have hmem : ∀ x, x ∈ xs.map (·.1) ↔ x ∈ E := fun x => by
      rw [List.mem_map]
      constructor
      · rintro ⟨y, hy, rfl⟩
        exact (hhas y).1 ((hS.2 y).1 hy)
      · intro hx
        exact ⟨⟨x, hf x hx⟩, (hS.2 _).2 ((hhas _).2 hx), rfl⟩
    exact ⟨_, q, k, c', rfl, hA, List.Pairwise.map _ (fun a b hab c => hab (Subtype.ext c)) hS.1, hmem⟩
theorem mem_alive {m : MapN} {d : DotN} : d ∈ (aliveM m).map (·.dot) ↔ ∃ k, d ∈ dotsK m.kept m.dead k := by
  rw [List.mem_map]
  constructor
  · rintro ⟨e, he, rfl⟩
    rw [alive_is] at he
    obtain ⟨h1, h2⟩ := List.mem_filter.1 he
    exact ⟨kOf e.item, mem_dotsK.2 ⟨e, h1, rfl, h2, rfl⟩⟩
  · rintro ⟨k, hk⟩
    obtain ⟨e, h1, rfl, h2, h3⟩ := mem_dotsK.1 hk
    exact ⟨e, by rw [alive_is]; exact List.mem_filter.2 ⟨h1, h2⟩, rfl⟩
set_option maxRecDepth 100000 in
set_option maxHeartbeats 4000000 in
theorem mAliveA {w : World} {v : Value} {m : MapN} (h : ArgM w v m) : Calls Tryz.prog 44 #[v] w (GivesN (aliveM m) w) := by
  have HO := mOrNewI h
  have HG0 : ∀ (ww : World) p B rs, Real ww p B rs m → ∀ a n c L, RowOf encD 3 ww a n c L → (∀ x, x ∈ L ↔ ∃ k, x ∈ dotsK m.kept m.dead k) → n ≤ 100000 → Calls Tryz.prog 83 #[.pointer (some ⟨p, 0, none⟩), .slice a n c] ww (GivesN (aliveM m) ww) := fun ww p B rs hR a n c L hL hmem hn => by
    have hsub : ∀ e ∈ aliveM m, e ∈ m.kept := fun e he => by
      rw [alive_is] at he
      exact (List.mem_filter.1 he).1
    have hin : ∀ x ∈ L, ∃ r ∈ rs, r.e.dot = x := fun x hx => by
      obtain ⟨k, hk⟩ := (hmem x).1 hx
      obtain ⟨e, he, hd, -⟩ := mem_dotsK.1 hk
      rw [← hR.rs] at he
      obtain ⟨r, hr, rfl⟩ := List.mem_map.1 he
      exact ⟨r, hr, hd⟩
    have := gatherI hR a n c L hL (fun x hx => by
      obtain ⟨r, hr, rfl⟩ := hin x hx
      exact hR.fit (hR.rs ▸ List.mem_map.2 ⟨r, hr, rfl⟩)) hin hn
    have hs : sortD L = (aliveM m).map (·.dot) := by
      refine sorted_unique (sortD_sorted _) (List.pairwise_map.2 ?_) fun x => ?_
      · rw [alive_is]
        exact List.Pairwise.sublist List.filter_sublist hR.ok.ok.kept
      · rw [sortD_mem, hmem, mem_alive]
    rw [hs, gather_is hR.sorted (fun e he => by rw [hR.rs]; exact hsub e he)] at this
    exact this
  unfold GivesN at HG0 ⊢
  go_enter Tryz.func44, Tryz.ntmps44
  go_wp2_with fail
  refine HO.mono ?_
  rintro e w1 ⟨p, B, rs, rfl, hR, hx⟩
  have c3 := hR.obj.cell 3 rfl
  obtain ⟨mv, hmv⟩ : ∃ mv, B .keys = mv := ⟨_, rfl⟩
  rw [hmv] at c3
  rcases hR.keys with ⟨e0, h0⟩ | ⟨q, nq, D, e0, hm, hD⟩
  · rw [hmv] at e0
    subst e0
    have hrg := run_range_nilMap (P := Tryz.prog) w1 104 39 103 Tryz.underlying104
    have hnx : ∀ ty, (Instr.next (.pointer (some ⟨w1.heap.size, 0, none⟩)) false ty).run Tryz.prog (w1.alloc (.mapIter none 0 #[] 0)) = _ := fun ty => run_next_nilMap _ ty 0 0 #[]
    have bi := below_alloc w1 (.mapIter none 0 #[] 0)
    have HG := HG0 _ p B rs (hR.below bi) none 0 0 [] (RowOf.none encD 3 _) (fun x => ⟨fun c => absurd c List.not_mem_nil, fun ⟨k, hk⟩ => by
      have h2 := hR.of k
      rw [h0] at h2
      rcases h2 with ⟨-, e⟩ | ⟨b, n, D, e, -⟩
      · rw [e] at hk
        exact absurd hk List.not_mem_nil
      · cases e⟩) (by omega)
    go_wp2_with fail
    refine wp_loop_rounds 1 ?_
    rw [rounds_succ]
    go_wp2_with (go_at_call 83; (with_reducible refine HG.mono ?_); rintro e w4 ⟨a4, n4, c4, P, rfl, hP, hz4, ho4, hn4, hx4⟩)
    go_ret
    have hb := hx.trans (bi.mono hx.size)
    exact ⟨a4, n4, c4, P, rfl, hP, hz4.base hb.size, ho4, fun r hr k hk => Nat.le_trans hb.size (hn4 r hr k hk), hb.trans (hx4.mono hb.size)⟩
  · rw [hmv] at e0
    subst e0
    have hqk := hR.own_lt q (.inr ⟨.keys, hmv⟩)
    go_wp2_with (at_range; refine wpList_range_own _ rfl _ 104 rfl 39 103 keyedKey Tryz.underlying104 _ q nq _ rfl hm ?_; intro w0 hrg0 hg0 hs0)
    try go_frame
    have b0 : Below w1.heap.size w1 w0 := (Keeps.ofGrownBy hg0).below (Nat.le_refl _) (fun k _ e => by cases e)
    go_loopw [3] (fun s wr => ∃ (left : Lit → Bool) (cnt : Nat) (ks : List KF) (a0 : Option Addr) (k0 c0 : Nat) (L : List DotN), wr.ranges Tryz.prog 39 heldElem q w1.heap.size nq D left cnt ∧ Came litK D left ks ∧ s = .slice a0 k0 c0 ∧ OwnZ encD 3 w1.heap.size 35 a0 k0 c0 L wr ∧ Hid (∀ x, x ∈ L ↔ ∃ k ∈ ks, x ∈ dotsK m.kept m.dead k.1) ∧ L.Nodup ∧ Below w1.heap.size w1 wr) (fun _ wr => wr.rangeLeft q w1.heap.size)
    case atStart => exact ⟨_, _, [], none, 0, 0, [], hrg0, Came.start _ D, rfl, OwnZ.none _ _ _ _ _, fun x => ⟨fun c => absurd c List.not_mem_nil, fun ⟨k, hk, _⟩ => absurd hk List.not_mem_nil⟩, List.nodup_nil, b0⟩
    case round =>
      clear hrg0 hg0 hs0 b0 c3
      obtain ⟨left, cnt, ks, a0, k0, c0, L, hrg, hC, rfl, hz, hmem, hnd, hb⟩ := hrel
      have hLK : L.length ≤ 2048 := by
        have h1 : L.length ≤ (m.kept.map (·.dot)).length := nodup_most1 hnd fun x hx => by
          obtain ⟨k, hk, hd⟩ := (hmem.out x).1 hx
          obtain ⟨e, he, hd2, -⟩ := mem_dotsK.1 hd
          exact List.mem_map.2 ⟨e, he, hd2⟩
        have h2 := hR.few
        rw [List.length_map] at h1
        omega
      have hk0 : k0 ≤ 2048 := by have := hz.2.1; omega
      go_wp2_with (at_next; refine wpList_next_heldK rfl rfl _ rfl q w1.heap.size nq D _ _ rfl hrg ?_ ?_)
      · intro hc0 hl0
        have hall := hC.all hl0
        have HG := HG0 wr p B rs (hR.below hb) a0 k0 c0 L (hz.row encD_len) (fun x => by
          rw [hmem.out]
          constructor
          · rintro ⟨k, _, hk⟩
            exact ⟨k.1, hk⟩
          · rintro ⟨k, hk⟩
            obtain ⟨e, he, hd, ha, hke⟩ := mem_dotsK.1 hk
            have hf : fitK k := hke ▸ light_fitK (hR.light e he)
            refine ⟨⟨k, hf⟩, (hall.2 _).2 ?_, hk⟩
            have h1 := (hD.at_ k hf).has
            cases h2 : B (.of k) with
            | none =>
              have h3 := hR.of k
              rw [h2] at h3
              rcases h3 with ⟨-, e⟩ | ⟨b, n, D, e, -⟩
              · rw [e] at hk
                exact absurd hk List.not_mem_nil
              · cases e
            | some b =>
              rw [h2] at h1
              exact h1) (by omega)
        go_wp2_with (go_at_call 83; (with_reducible refine HG.mono ?_); rintro e w4 ⟨a4, n4, c4, P, rfl, hP, hz4, ho4, hn4, hx4⟩)
        go_ret
        have hbb := hx.trans (hb.mono hx.size)
        exact ⟨a4, n4, c4, P, rfl, hP, hz4.base hbb.size, ho4, fun r hr k hk => Nat.le_trans hbb.size (hn4 r hr k hk), hbb.trans (hx4.mono hbb.size)⟩
      · intro x1 x2 x3 hxx v w2 cnt2 hlk hat hrg2 hlt hg2 hs2 hen
        obtain ⟨x, hxe⟩ : ∃ x : KF, x = ⟨(x1, x2, x3), hxx⟩ := ⟨_, rfl⟩
        rw [← hxe] at hlk hat hrg2
        obtain ⟨b, hbx, rfl⟩ : ∃ b, B (.of x.1) = some b ∧ v = .map (some b) := by
          have h1 := hD.at_ x.1 x.2
          have h2 := h1.has
          rw [show Go.Maps.has D (keyT x.1) = true from Go.Maps.has_true_of_atKey hat] at h2
          cases h3 : B (.of x.1) with
          | none => rw [h3] at h2; simp at h2
          | some b =>
            rw [h3] at h1
            have h4 := (h1.at_ _ rfl .nil).symm.trans (hat .nil)
            cases h4
            exact ⟨b, rfl, rfl⟩
        have hh := Go.Maps.has_true_of_atKey hat
        have hC2 := hC.step litK_inj (key_lit x.2) hlk hh
        have hxn : x ∉ ks := fun c => by
          have := ((hC.mem x).1 c).2
          rw [hlk] at this
          cases this
        have k2 := Keeps.ofGrownBy hg2
        have hau := own_user hz
        have hri : ∀ j, At a0 j → j ≠ w1.heap.size := fun j hj c => by
          obtain ⟨o, ho, hs⟩ := ranges_iter hrg
          rw [← c, ] at ho
          rw [(hau j hj).2 o ho] at hs
          cases hs
        have hz2 := hz.keeps k2 (fun j hj c => hri j hj (Option.some.inj c).symm)
        have hb2 : Below w1.heap.size w1 w2 := hb.trans (k2.below hb.size (fun k _ e => by cases e; exact Nat.le_refl _))
        have b3 := below_alloc w2 (.cells #[.map (some b)] 103)
        have oc := (ObjAt.new w2 #[.map (some b)] 103).cell 0 rfl
        have hz3 := hz2.below b3 (Nat.le_refl _)
        have hb3 := hb2.trans (b3.mono hb2.size)
        have hrg3 := hrg2.alloc (.cells #[.map (some b)] 103)
        have hR3 := hR.below hb3
        have hof3 := hR3.of x.1
        rw [hbx] at hof3
        have hal2 := own_user hz2
        have HAp := appendS (Bm := w2.heap.size) w1.heap.size a0 k0 c0 L hz3 hb3.size hof3 oc (fun y hy => by
          obtain ⟨e, he, hd, -⟩ := mem_dotsK.1 hy
          exact hd ▸ hR.fit he) (Nat.le_trans (dotsK_few _ _ _) (Nat.le_trans hR.few (by omega))) (by omega) (fun c => absurd (hal2 _ c).1 (Nat.lt_irrefl _))
        have HM := keysMakeS (some b) w2
        have hndk := dotsK_nodup hR.ok.ok.kept m.dead x.1
        clear hs2 hat hz hz2
        go_wp2_with (first
          | (go_at_call 76; (with_reducible refine HM.mono ?_); rintro e w3 ⟨rfl, rfl⟩)
          | (go_at_call 89; (with_reducible refine HAp.mono ?_); rintro e w4 ⟨L2, a4, k4, c4, rfl, hA, hnd2, hmem2⟩))
        have hrg4 := hA.keeps.ranges (fun c => own_not_map hz3 c (ownsMap_blk hrg3.owns)) (fun c => by
          obtain ⟨o, ho, hs⟩ := ranges_iter hrg3
          rw [(own_user hz3 _ c).2 o ho] at hs
          cases hs) hrg3
        go_roundw
        case rel =>
          refine ⟨_, cnt2, ks ++ [x], a4, k4, c4, L ++ L2, hrg4, hC2, rfl, hA.own, fun y => ?_, List.nodup_append.2 ⟨hnd, hnd2, fun y hy z hz he => ?_⟩, hb3.trans (hA.keeps.below hb3.size fun j hj hc => ?_)⟩
          · rw [List.mem_append, hmem.out, hmem2]
            constructor
            · rintro (⟨k, h1, h2⟩ | h1)
              · exact ⟨k, List.mem_append.2 (.inl h1), h2⟩
              · exact ⟨x, List.mem_append.2 (.inr List.mem_cons_self), h1⟩
            · rintro ⟨k, h1, h2⟩
              rcases List.mem_append.1 h1 with h1 | h1
              · exact .inl ⟨k, h1, h2⟩
              · rw [List.mem_singleton.1 h1] at h2
                exact .inr h2
          · subst he
            obtain ⟨k, h1, h2⟩ := (hmem.out y).1 hy
            have h3 := (hmem2 y).1 hz
            obtain ⟨e, he, hd, -, hke⟩ := mem_dotsK.1 h2
            obtain ⟨e2, he2, hd2, -, hke2⟩ := mem_dotsK.1 h3
            have := one_dot hR.ok.ok.kept he he2 (hd.trans hd2.symm)
            subst this
            exact hxn ((Subtype.ext (hke.symm.trans hke2) : k = x) ▸ h1)
          · rcases hz3.head with ⟨e, -⟩ | ⟨g, e, hg, -⟩
            · rw [e] at hc
              exact absurd hc (at_none j)
            · rw [e] at hc
              have := at_some.1 hc
              dsimp only at this
              omega
        case measure => rw [hrg4.left_eq, hrg.left_eq]; exact hlt
end Go.Proofs.YtaodjnkjjmhecaaGreatDoor
namespace Go.Proofs.YtaodjnkjjmhecaaGreatDoor
open Go.RowKit
set_option linter.unusedVariables false
theorem or1 {a b c : Int} (h : a ≠ 0) : orN a b c = a := by unfold orN; rw [if_pos h]
theorem or2 {b c : Int} (h : b ≠ 0) : orN 0 b c = b := by unfold orN; rw [if_neg (by simp), if_pos h]
theorem or3 {c : Int} : orN 0 0 c = c := by unfold orN; rw [if_neg (by simp), if_neg (by simp)]
set_option maxRecDepth 100000 in
theorem orC (a b c : Int) (B : Nat) (w : World) (h : ObjAt w B [.int .i64 a, .int .i64 b, .int .i64 c]) :
    Calls Tryz.prog 183 #[.slice (some ⟨B, 0, none⟩) 3 3] w fun e w' => e = .returned (.int .i64 (orN a b c)) ∧ w = w' := by
  have u0 := h.cell 0 rfl; have u1 := h.cell 1 rfl; have u2 := h.cell 2 rfl
  clear h
  go_enter Tryz.func183, Tryz.ntmps183
  go_wp2
  go_loopw [8] (fun i wr => ∃ k : Nat, k ≤ 3 ∧ i = .int .i64 (k : Int) ∧ Hid ((0 < k → a = 0) ∧ (1 < k → b = 0) ∧ (2 < k → c = 0)) ∧ w = wr) (fun i _ => 3 - (intOf i).toNat)
  case atStart => exact ⟨0, Nat.zero_le _, rfl, ⟨fun h => absurd h (Nat.not_lt_zero _), fun h => absurd h (Nat.not_lt_zero _), fun h => absurd h (Nat.not_lt_zero _)⟩, rfl⟩
  case round =>
    obtain ⟨k, hk, rfl, hH, rfl⟩ := hrel
    match k, hk with
    | 0, _ =>
      by_cases q : a = 0
      · subst q
        go_wp2
        go_roundw
        case rel => exact ⟨1, by omega, rfl, ⟨(by first | trivial | (intros; first | rfl | omega)), (by first | trivial | (intros; first | rfl | omega)), (by first | trivial | (intros; first | rfl | omega))⟩, by first | rfl | trivial⟩
        case measure => simp [intOf]
      · have d0 : (a != 0) = true := bne_iff_ne.2 q
        go_wp2
        go_ret
        exact ⟨by rw [or1 q]; rfl, rfl⟩
    | 1, _ =>
      obtain rfl : a = 0 := hH.out.1 (by omega)
      by_cases q : b = 0
      · subst q
        go_wp2
        go_roundw
        case rel => exact ⟨2, by omega, rfl, ⟨(by first | trivial | (intros; first | rfl | omega)), (by first | trivial | (intros; first | rfl | omega)), (by first | trivial | (intros; first | rfl | omega))⟩, by first | rfl | trivial⟩
        case measure => simp [intOf]
      · have d0 : (b != 0) = true := bne_iff_ne.2 q
        go_wp2
        go_ret
        exact ⟨by rw [or2 q]; rfl, rfl⟩
    | 2, _ =>
      obtain rfl : a = 0 := hH.out.1 (by omega)
      obtain rfl : b = 0 := hH.out.2.1 (by omega)
      by_cases q : c = 0
      · subst q
        go_wp2
        go_roundw
        case rel => exact ⟨3, by omega, rfl, ⟨(by first | trivial | (intros; first | rfl | omega)), (by first | trivial | (intros; first | rfl | omega)), (by first | trivial | (intros; first | rfl | omega))⟩, by first | rfl | trivial⟩
        case measure => simp [intOf]
      · have d0 : (c != 0) = true := bne_iff_ne.2 q
        go_wp2
        go_ret
        exact ⟨by rw [or3]; rfl, rfl⟩
    | 3, _ =>
      obtain rfl : a = 0 := hH.out.1 (by omega)
      obtain rfl : b = 0 := hH.out.2.1 (by omega)
      obtain rfl : c = 0 := hH.out.2.2 (by omega)
      go_wp2
      go_ret
      exact ⟨by rw [or3]; rfl, rfl⟩
    | k + 4, h => exact absurd h (by omega)
set_option maxRecDepth 100000 in
theorem kLessC (s t : StampN) (w : World) (hs : FitT s) (ht : FitT t) : Calls Tryz.prog 152 #[valT s, valT t] w fun e w' => e = .returned (.bool (lessT s t)) ∧ Below w.heap.size w w' := by
  rw [← or_less]
  obtain ⟨a, b, d⟩ := s
  obtain ⟨i, j, k⟩ := t
  unfold valT
  dsimp only
  obtain ⟨o1, o2, hb⟩ := objs2 w #[.int .i64 a, .int .i64 b, .int .i64 d] #[.int .i64 i, .int .i64 j, .int .i64 k] 37 37
  have u0 := o1.cell 0 rfl; have u1 := o1.cell 1 rfl; have u2 := o1.cell 2 rfl
  have v0 := o2.cell 0 rfl; have v1 := o2.cell 1 rfl; have v2 := o2.cell 2 rfl
  have H1 := fun v => cmpIntC a i v
  have H2 := fun v => cmpIntC b j v
  have H3 := fun v => cmpIntC d k v
  have HO := fun x y z B v h => orC x y z B v h
  generalize cmpN a i = x at *
  generalize cmpN b j = y at *
  generalize cmpN d k = z at *
  clear hs ht
  generalize hw0 : (w.alloc (.cells #[.int .i64 a, .int .i64 b, .int .i64 d] 37)).alloc (.cells #[.int .i64 i, .int .i64 j, .int .i64 k] 37) = w0 at *
  have hb0 : ∀ o : Obj, Below w.heap.size w (w0.alloc o).drew := fun o => hb.trans ((below_alloc w0 o).drew.mono hb.size)
  have oN := (ObjAt.new w0 #[.int .i64 x, .int .i64 y, .int .i64 z] 3).drew
  have l1 := o1.lt
  have l2 := o2.lt
  have hK : ∀ v, Below w0.heap.size w0 v → v.cell? ⟨w.heap.size, 0, none⟩ = some (.int .i64 a) ∧ v.cell? ⟨w.heap.size, 1, none⟩ = some (.int .i64 b) ∧ v.cell? ⟨w.heap.size, 2, none⟩ = some (.int .i64 d) ∧ v.cell? ⟨w.heap.size + 1, 0, none⟩ = some (.int .i64 i) ∧ v.cell? ⟨w.heap.size + 1, 1, none⟩ = some (.int .i64 j) ∧ v.cell? ⟨w.heap.size + 1, 2, none⟩ = some (.int .i64 k) := fun v hv =>
    ⟨(o1.below hv l1).cell 0 rfl, (o1.below hv l1).cell 1 rfl, (o1.below hv l1).cell 2 rfl, (o2.below hv l2).cell 0 rfl, (o2.below hv l2).cell 1 rfl, (o2.below hv l2).cell 2 rfl⟩
  go_enter Tryz.func152, Tryz.ntmps152
  go_wp2_with fail
  go_region_held3 (fun w' => w'.cell? ⟨w.heap.size, 0, none⟩ = some (.int .i64 a) ∧ w'.cell? ⟨w.heap.size, 1, none⟩ = some (.int .i64 b) ∧ w'.cell? ⟨w.heap.size, 2, none⟩ = some (.int .i64 d) ∧ w'.cell? ⟨w.heap.size + 1, 0, none⟩ = some (.int .i64 i) ∧ w'.cell? ⟨w.heap.size + 1, 1, none⟩ = some (.int .i64 j) ∧ w'.cell? ⟨w.heap.size + 1, 2, none⟩ = some (.int .i64 k))
    (first | exact hK _ (Below.refl _ _) | exact hK _ ((Below.refl _ _).drew) | exact hK _ ((below_alloc w0 _).drew) | exact hK _ (below_alloc w0 _))
    (first
      | (go_at_call 154; (with_reducible refine (H1 _).mono ?_); rintro e w1 ⟨rfl, rfl⟩)
      | (go_at_call 154; (with_reducible refine (H2 _).mono ?_); rintro e w1 ⟨rfl, rfl⟩)
      | (go_at_call 154; (with_reducible refine (H3 _).mono ?_); rintro e w1 ⟨rfl, rfl⟩)
      | (go_at_call 183; (with_reducible refine (HO x y z _ _ oN).mono ?_); rintro e w1 ⟨rfl, rfl⟩))
  all_goals (
    go_wp2
    go_ret
    exact ⟨rfl, hb0 _⟩)
structure TopE (A : Array Value) (d : DotN) (s : StampN) : Prop where
  size : A.size = 19
  one : A.all (·.oneCell') = true
  c0 : A.toList[0]? = some (.int .i64 d.dev)
  c1 : A.toList[1]? = some (.int .i64 d.inc)
  c2 : A.toList[2]? = some (.int .i64 d.seq)
  c3 : A.toList[3]? = some (.int .i64 s.wall)
  c4 : A.toList[4]? = some (.int .i64 s.count)
  c5 : A.toList[5]? = some (.int .i64 s.dev)
def topD (o : Option EvR) : DotN := match o with | none => ⟨0, 0, 0⟩ | some r => r.e.dot
def topT (o : Option EvR) : StampN := match o with | none => ⟨0, 0, 0⟩ | some r => r.e.stamp
theorem TopE.of (o : Option EvR) : TopE (encO o).toArray (topD o) (topT o) := by
  refine ⟨encO_size o, encO_one o, ?_, ?_, ?_, ?_, ?_, ?_⟩ <;> (cases o <;> rfl)
def ltE (d : DotN) (s : StampN) (e : DotN) (t : StampN) : Bool := if sameT s t = true then lessD d e else lessT s t
set_option maxRecDepth 100000 in
set_option maxHeartbeats 2000000 in
theorem lessEvC (A C : Array Value) (d e : DotN) (s t : StampN) (h1 : TopE A d s) (h2 : TopE C e t) (hs : FitT s) (ht : FitT t) (w : World) : Calls Tryz.prog 123 #[.agg A, .agg C] w fun en w' => en = .returned (.bool (ltE d s e t)) ∧ Below w.heap.size w w' := by
  obtain ⟨o1, o2, hb⟩ := objsE2 w A C 43 43
  have hE := fun v => eqStampE s t v
  have HL := fun v => kLessC s t v hs ht
  have HD := fun v => dotLessG d e v
  unfold valT at HL
  have u0 := o1.cell 0 h1.c0; have u1 := o1.cell 1 h1.c1; have u2 := o1.cell 2 h1.c2; have u3 := o1.cell 3 h1.c3; have u4 := o1.cell 4 h1.c4; have u5 := o1.cell 5 h1.c5
  have v0 := o2.cell 0 h2.c0; have v1 := o2.cell 1 h2.c1; have v2 := o2.cell 2 h2.c2; have v3 := o2.cell 3 h2.c3; have v4 := o2.cell 4 h2.c4; have v5 := o2.cell 5 h2.c5
  clear h1 h2 hs ht o1 o2
  obtain ⟨d1, d2, d3⟩ := d
  obtain ⟨e1, e2, e3⟩ := e
  obtain ⟨s1, s2, s3⟩ := s
  obtain ⟨t1, t2, t3⟩ := t
  dsimp only at *
  generalize hw0 : (w.alloc (.cells A 43)).alloc (.cells C 43) = w0 at *
  unfold ltE
  cases hq : sameT ⟨s1, s2, s3⟩ ⟨t1, t2, t3⟩ with
  | true =>
    rw [hq] at hE
    rw [if_pos rfl]
    clear hq HL
    generalize lessD ⟨d1, d2, d3⟩ ⟨e1, e2, e3⟩ = R at *
    go_enter Tryz.func123, Tryz.ntmps123
    go_wp2_with (go_at_call 139; (with_reducible refine (HD _).mono ?_); rintro e w1 ⟨rfl, hx⟩; have hb := hb.trans (hx.mono hb.size))
    go_ret
    exact ⟨rfl, hb⟩
  | false =>
    rw [hq] at hE
    rw [if_neg (by decide)]
    clear hq HD
    generalize lessT ⟨s1, s2, s3⟩ ⟨t1, t2, t3⟩ = R at *
    go_enter Tryz.func123, Tryz.ntmps123
    go_wp2_with (go_at_call 152; (with_reducible refine (HL _).mono ?_); rintro e w1 ⟨rfl, hx⟩; have hb := hb.trans (hx.mono hb.size))
    go_ret
    exact ⟨rfl, hb⟩
theorem lessT_iff {s t : StampN} : lessT s t = true ↔ s.wall < t.wall ∨ (s.wall = t.wall ∧ (s.count < t.count ∨ (s.count = t.count ∧ s.dev < t.dev))) := by
  unfold lessT
  by_cases h1 : s.wall = t.wall
  · rw [if_neg (by omega)]
    by_cases h2 : s.count = t.count
    · rw [if_neg (by omega), decide_eq_true_iff]
      omega
    · rw [if_pos h2, decide_eq_true_iff]
      omega
  · rw [if_pos h1, decide_eq_true_iff]
    omega
theorem ltE_iff {d e : DotN} {s t : StampN} : ltE d s e t = true ↔ (s.wall < t.wall ∨ (s.wall = t.wall ∧ (s.count < t.count ∨ (s.count = t.count ∧ (s.dev < t.dev ∨ (s.dev = t.dev ∧ (d.dev < e.dev ∨ (d.dev = e.dev ∧ (d.inc < e.inc ∨ (d.inc = e.inc ∧ d.seq < e.seq)))))))))) := by
  unfold ltE
  by_cases h : sameT s t = true
  · rw [if_pos h, lessD_iff]
    obtain rfl := sameT_iff.1 h
    omega
  · rw [if_neg h, lessT_iff]
    have h2 : ¬ (s.wall = t.wall ∧ s.count = t.count ∧ s.dev = t.dev) := fun ⟨c1, c2, c3⟩ => h (sameT_iff.2 (StampN.ext' c1 c2 c3))
    omega
def ltV (a b : EventN) : Bool := ltE a.dot a.stamp b.dot b.stamp
theorem ltV_trans {a b c : EventN} (h1 : ltV a b = true) (h2 : ltV b c = true) : ltV a c = true := by
  unfold ltV at *
  rw [ltE_iff] at *
  omega
theorem ltV_asymm {a b : EventN} (h1 : ltV a b = true) (h2 : ltV b a = true) : False := by
  unfold ltV at *
  rw [ltE_iff] at *
  omega
theorem ltV_total {a b : EventN} (h : ltV a b = false) : a.dot = b.dot ∨ ltV b a = true := by
  by_cases hd : a.dot = b.dot
  · exact .inl hd
  · refine .inr ?_
    have h1 : ¬ ltV a b = true := by rw [h]; exact Bool.noConfusion
    unfold ltV at *
    rw [ltE_iff] at *
    have h2 : ¬ (a.dot.dev = b.dot.dev ∧ a.dot.inc = b.dot.inc ∧ a.dot.seq = b.dot.seq) := fun ⟨c1, c2, c3⟩ => hd (by
      cases ha : a.dot; cases hb : b.dot
      rw [ha, hb] at c1 c2 c3
      dsimp only at c1 c2 c3
      rw [c1, c2, c3])
    omega
theorem best_lt {x e : EventN} (h : lessD x.dot e.dot = true) : (lessT e.stamp x.stamp = true → ltV e x = true) ∧ (¬ lessT e.stamp x.stamp = true → ltV x e = true) := by
  unfold ltV
  rw [ltE_iff, ltE_iff, lessT_iff]
  rw [lessD_iff] at h
  omega
theorem best_max : ∀ (L : List EventN) (acc : Option EventN), SortedE L → (∀ a, acc = some a → ∀ y ∈ L, lessD a.dot y.dot = true) →
    (∀ e, L.foldl bestM acc = some e → (acc = some e ∨ e ∈ L) ∧ (∀ y ∈ L, y = e ∨ ltV y e = true) ∧ ∀ a, acc = some a → a = e ∨ ltV a e = true) ∧ (L.foldl bestM acc = none → acc = none ∧ L = [])
  | [], acc, _, _ => ⟨fun e he => ⟨.inl he, fun y hy => absurd hy List.not_mem_nil, fun a ha => .inl (Option.some.inj (ha.symm.trans he))⟩, fun h => ⟨h, rfl⟩⟩
  | x :: t, acc, hs, ha => by
    obtain ⟨h1, h2⟩ := List.pairwise_cons.1 hs
    have hz : ∃ z, bestM acc x = some z ∧ (acc = some z ∨ z = x) ∧ (x = z ∨ ltV x z = true) ∧ (∀ a, acc = some a → a = z ∨ ltV a z = true) := by
      cases acc with
      | none => exact ⟨x, rfl, .inr rfl, .inl rfl, fun a c => by cases c⟩
      | some a =>
        have hb := best_lt (ha a rfl x (List.mem_cons_self ..))
        by_cases hc : lessT x.stamp a.stamp = true
        · refine ⟨a, ?_, .inl rfl, .inr (hb.1 hc), fun b c => .inl (Option.some.inj c).symm⟩
          unfold bestM
          dsimp only
          rw [if_pos hc]
        · refine ⟨x, ?_, .inr rfl, .inl rfl, fun b c => .inr (Option.some.inj c ▸ hb.2 hc)⟩
          unfold bestM
          dsimp only
          rw [if_neg hc]
    obtain ⟨z, z1, z2, z3, z4⟩ := hz
    have hzt : ∀ y ∈ t, lessD z.dot y.dot = true := fun y hy => by
      rcases z2 with c | c
      · exact ha z c y (List.mem_cons_of_mem _ hy)
      · subst c
        exact h1 y hy
    have ih := best_max t (some z) h2 fun a c y hy => by cases c; exact hzt y hy
    rw [List.foldl_cons, z1]
    refine ⟨fun e he => ?_, fun hn => ?_⟩
    · obtain ⟨i1, i2, i3⟩ := ih.1 e he
      have i4 := i3 z rfl
      have hup : ∀ y, (y = z ∨ ltV y z = true) → y = e ∨ ltV y e = true := fun y hy => by
        rcases hy with c | c
        · rw [c]
          exact i4
        · rcases i4 with c2 | c2
          · exact .inr (c2 ▸ c)
          · exact .inr (ltV_trans c c2)
      refine ⟨?_, fun y hy => ?_, fun a c => hup a (z4 a c)⟩
      · rcases i1 with c | c
        · have c2 : z = e := Option.some.inj c
          subst c2
          rcases z2 with c3 | c3
          · exact .inl c3
          · exact .inr (c3 ▸ List.mem_cons_self ..)
        · exact .inr (List.mem_cons_of_mem _ c)
      · rcases List.mem_cons.1 hy with c | c
        · exact hup y (c ▸ z3)
        · exact i2 y c
    · exact absurd (ih.2 hn).1 (by simp)
theorem best_is {m : MapN} {x : ItemL} (hs : SortedE m.kept) {o : Option EvR} (h1 : ∀ r, o = some r → r.e ∈ keyM m x) (h2 : ∀ e ∈ keyM m x, ∃ r, o = some r ∧ (e = r.e ∨ ltV e r.e = true)) : winnerM m x = o.map (·.e) := by
  have hsk : SortedE (keyM m x) := by
    unfold keyM
    rw [alive_is]
    exact List.Pairwise.sublist (List.filter_sublist.trans List.filter_sublist) hs
  have hb := best_max (keyM m x) none hsk fun a c => by cases c
  unfold winnerM
  cases hw : (keyM m x).foldl bestM none with
  | none =>
    have hn := (hb.2 hw).2
    cases o with
    | none => rfl
    | some r =>
      have := h1 r rfl
      rw [hn] at this
      exact absurd this List.not_mem_nil
  | some e =>
    obtain ⟨i1, i2, -⟩ := hb.1 e hw
    have he : e ∈ keyM m x := i1.elim (fun c => by cases c) id
    obtain ⟨r, ho, hr⟩ := h2 e he
    rw [ho]
    rcases hr with c | c
    · rw [c]
      rfl
    · rcases i2 r.e (h1 r ho) with d | d
      · rw [Option.map_some, d]
      · exact absurd (ltV_asymm c d) id
theorem right_stampE {e : EventN} (h : rightE e = true) : rightT e.stamp = true := by
  unfold rightE headE at h
  simp only [Bool.and_eq_true] at h
  exact h.1.2.1
theorem zero_ltE {e : EventN} (h : rightE e = true) : ltE ⟨0, 0, 0⟩ ⟨0, 0, 0⟩ e.dot e.stamp = true := by
  have hd := lessD_iff.1 (zero_less (right_dotE h))
  have ht := rightT_iff.1 (right_stampE h)
  rw [ltE_iff]
  dsimp only at *
  omega
end Go.Proofs.YtaodjnkjjmhecaaGreatDoor
namespace Go.Proofs.YtaodjnkjjmhecaaGreatDoor
open Go.RowKit Go.WideMaps
set_option linter.unusedVariables false
theorem wpList_next_dots {P : Program} (hP : P = Tryz.prog) {w : World} {ops : Array Oper} {rest : List Oper} {o : Oper} {a : Act} {Q : Exit → Act → World → Prop} (hg : o.guard = none) (it : Operand) (hop : o.op = Op.next it false) (b r n : Nat) (D : DataW Unit) (left : Lit → Bool) (cnt : Nat)
    (hit : a.eval it = .pointer (some ⟨r, 0, none⟩)) (h : w.ranges P 35 unitElem b r n D left cnt)
    (hDone : cnt = 0 → (∀ kl, left kl = false) → wpList P ops Q rest (a.put o.dst (.tuple #[.bool false])) w)
    (hMore : ∀ (d i c : Int) (w' : World) (cnt' : Nat), is64 d → is64 i → is64 c → left (keyD ⟨d, i, c⟩) = true → (∀ zd, D.atKey (keyD ⟨d, i, c⟩) zd = .agg []) → w'.ranges P 35 unitElem b r n D (fun z => left z && !z.sameKey (keyD ⟨d, i, c⟩)) cnt' → cnt' < cnt →
      w.grownBy w' (some r) → w'.heap.size = w.heap.size → (Instr.entry (.pointer (some ⟨r, 0, none⟩))).run P w' = .ok (.tuple #[.agg #[.int .i64 d, .int .i64 i, .int .i64 c], .agg #[]]) w' → wpList P ops Q rest (a.put o.dst (.tuple #[.bool true, .agg #[.int .i64 d, .int .i64 i, .int .i64 c], .agg #[]])) w') :
    wpList P ops Q (o :: rest) a w := by
  subst hP
  refine wpList_next_ranges (α := Int × Int × Int) (β := Unit) w hg it hop 35 keyedDot unitElem (fun x => .agg #[.int .i64 x.1, .int .i64 x.2.1, .int .i64 x.2.2]) (fun _ => .agg #[]) (fun key kl hkey => ?_) (fun v y hv => ?_) b r n D left cnt hit h hDone (fun x c kl y w' cnt' hkey hlk hv hat hrg hlt hgr hsz hen => ?_)
  · obtain ⟨d, i, c, _, _, _, e, _⟩ := key_dot_inv hkey
    exact ⟨(d, i, c), e⟩
  · obtain ⟨e, _⟩ := unitElem_inv hv
    exact ⟨(), e⟩
  · obtain ⟨d, i, c', hd, hi, hc, e, rfl⟩ := key_dot_inv hkey
    obtain ⟨_, rfl⟩ := unitElem_inv hv
    simp only [Value.agg.injEq, Array.mk.injEq, List.cons.injEq, Value.int.injEq, true_and, and_true] at e
    obtain ⟨x1, x2, x3⟩ := x
    obtain ⟨rfl, rfl, rfl⟩ := e
    exact hMore _ _ _ w' cnt' hd hi hc hlk hat hrg hlt hgr hsz hen
end Go.Proofs.YtaodjnkjjmhecaaGreatDoor
namespace Go.Proofs.YtaodjnkjjmhecaaGreatDoor
open Go.RowKit
set_option linter.unusedVariables false
def GivesEs (L : List EventN) (w : World) (en : Ending) (w' : World) : Prop :=
  ∃ a n c, en = .returned (.slice a n c) ∧ RowE w' a n c L ∧ Below w.heap.size w w'
def GivesEr (R : Nat → Prop) (L : List EventN) (w : World) (en : Ending) (w' : World) : Prop :=
  ∃ a n c P, en = .returned (.slice a n c) ∧ P.map (·.e) = L ∧ RowOf encE 19 w' a n c P ∧ OversAt w' P ∧ (∀ k, At a k → (R k ∨ w.heap.size ≤ k) ∧ k < w'.heap.size) ∧ (∀ r ∈ P, ∀ k, At (overA r) k → R k ∨ w.heap.size ≤ k) ∧ Below w.heap.size w w'
theorem GivesEr.es {R : Nat → Prop} {L : List EventN} {w : World} {en : Ending} {w' : World} (h : GivesEr R L w en w') : GivesEs L w en w' := by
  obtain ⟨a, n, c, P, rfl, h1, h2, h3, -, -, h4⟩ := h
  exact ⟨a, n, c, rfl, ⟨P, h1, h2, h3⟩, h4⟩
theorem GivesN.er {R : Nat → Prop} {L : List EventN} {w : World} {en : Ending} {w' : World} (h : GivesN L w en w') : GivesEr R L w en w' := by
  obtain ⟨a, n, c, P, rfl, hP, hz, ho, hn, hx⟩ := h
  exact ⟨a, n, c, P, rfl, hP, hz.row encE_len, ho, fun k hk => ⟨.inr (hz.lt' k hk).1, (hz.lt' k hk).2⟩, fun r hr k hk => .inr (hn r hr k hk), hx⟩
theorem mAliveC (p : Nat) (F R : Nat → Prop) (m : MapN) (w : World) (h : MapAt w p F R m) : Calls Tryz.prog 44 #[.pointer (some ⟨p, 0, none⟩)] w (GivesEs (aliveM m) w) := (mAliveA h.arg).mono fun _ _ h => (GivesN.er (R := R) h).es
theorem mLenC (p : Nat) (F R : Nat → Prop) (m : MapN) (w : World) (h : MapAt w p F R m) : Calls Tryz.prog 46 #[.pointer (some ⟨p, 0, none⟩)] w fun en w' => en = .returned (.int .i64 (m.kept.length : Int)) ∧ Below w.heap.size w w' := mLenA h.arg
theorem mDeadC (p : Nat) (F R : Nat → Prop) (m : MapN) (d : DotN) (w : World) (h : MapAt w p F R m) (hx : FitD d) : Calls Tryz.prog 38 #[.pointer (some ⟨p, 0, none⟩), .agg #[.int .i64 d.dev, .int .i64 d.inc, .int .i64 d.seq]] w fun en w' => en = .returned (.bool (hasD m.dead d)) ∧ Below w.heap.size w w' := mDeadA h.arg d hx
end Go.Proofs.YtaodjnkjjmhecaaGreatDoor
