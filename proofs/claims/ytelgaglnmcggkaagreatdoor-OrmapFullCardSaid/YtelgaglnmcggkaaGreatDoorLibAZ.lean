/- Contracts and plain words that the laws' proofs stand on, put together. -/
import Derived.Test.YtelgaglnmcggkaaGreatDoorLibAY
import Derived.Test.YtelgaglnmcggkaaGreatDoorLibAA
import Derived.Test.YtelgaglnmcggkaaGreatDoorClockUp
import Derived.Test.YtelgaglnmcggkaaGreatDoorClockLess
import Derived.Test.YtelgaglnmcggkaaGreatDoorEventRef
import Derived.Test.YtelgaglnmcggkaaGreatDoorLibAU
import Derived.Test.YtelgaglnmcggkaaGreatDoorLibAS
import Derived.Test.YtelgaglnmcggkaaGreatDoorOrRef14
import Derived.Test.YtelgaglnmcggkaaGreatDoorLibAV
/- The alive Puts of a key; all alive Puts. -/
namespace Go.Proofs.YtelgaglnmcggkaaGreatDoor
open Go.RowKit Go.Shelf
set_option linter.unusedVariables false
set_option linter.unusedSimpArgs false

/-- The step of a round over a map of keys. -/
theorem wpList_next_heldK {P : Program} (hP : P = Tryz.prog) {w : World} {ops : Array Oper} {rest : List Oper} {o : Oper} {a : Act} {Q : Exit → Act → World → Prop} (hg : o.guard = none) (it : Operand) (hop : o.op = Op.next it false) (b r n : Nat) (D : DataW Value) (left : Lit → Bool) (cnt : Nat)
    (hit : a.eval it = .pointer (some ⟨r, 0, none⟩)) (h : w.ranges P 39 heldElem b r n D left cnt)
    (hDone : cnt = 0 → (∀ kl, left kl = false) → wpList P ops Q rest (a.put o.dst (.tuple #[.bool false])) w)
    (hMore : ∀ (x : KF) (v : Value) (w' : World) (cnt' : Nat), left (litK x) = true → (∀ zd, D.atKey (litK x) zd = .held v) → w'.ranges P 39 heldElem b r n D (fun z => left z && !z.sameKey (litK x)) cnt' → cnt' < cnt →
      w.grownBy w' (some r) → w'.heap.size = w.heap.size → (Instr.entry (.pointer (some ⟨r, 0, none⟩))).run P w' = .ok (.tuple #[.agg #[.string (str x.1.1), .string (str x.1.2.1), .string (str x.1.2.2)], v]) w' → wpList P ops Q rest (a.put o.dst (.tuple #[.bool true, .agg #[.string (str x.1.1), .string (str x.1.2.1), .string (str x.1.2.2)], v])) w') :
    wpList P ops Q (o :: rest) a w := by
  subst hP
  refine wpList_next_ranges (α := KF) (β := Value) w hg it hop 39 keyedKey heldElem (fun x => valKey x.1) (fun v => v) (fun key kl hkey => ?_) (fun v y hv => ⟨v, rfl⟩) b r n D left cnt hit h hDone (fun x v kl y w' cnt' hkey hlk hv hat hrg hlt hgr hsz hen => ?_)
  · obtain ⟨x, e, _⟩ := is_key hkey
    exact ⟨x, e⟩
  · obtain ⟨x', ex, rfl⟩ := is_key hkey
    have hy := held_inv (d := y.1) (ps := y.2) hv
    have exx : x = x' := Subtype.ext (valKey_inj ex)
    subst exx
    exact hMore x v w' cnt' hlk (fun zd => (hat zd).trans hy) hrg hlt hgr hsz hen
theorem own_not_map {α : Type} {enc : α → List Value} {z base : Nat} {e : TypeId} {a : Option Addr} {n c : Nat} {P : List α} {w : World} (h : OwnZ enc z base e a n c P w) {k : Nat} (hk : At a k) (hm : MapBlk w k) : False := by
  obtain ⟨es, cl, hb⟩ := hm
  rcases h.1.2 with ⟨hv, _⟩ | ⟨g, cap, cur, hv, hb2, hg, _⟩
  · cases hv
    exact absurd hk (at_none k)
  · cases hv
    have e1 : g = k := at_some.1 hk
    subst e1
    rw [hg] at hb
    cases hb
/-- The dots of a set, appended. -/
theorem appendS {w : World} {Bm : Nat} {mv : Option Nat} {E : List DotN} (base : Nat) (a : Option Addr) (n c : Nat) (L : List DotN) (hown : OwnZ encD 3 base 35 a n c L w) (hbase : base ≤ w.heap.size) (h : SetIs w mv E) (hc : w.cell? ⟨Bm, 0, none⟩ = some (.map mv)) (hf : ∀ x ∈ E, FitD x) (hn : E.length ≤ 100000) (hn2 : n ≤ 100000) (hBm : ¬ At a Bm) :
    Calls Tryz.prog 74 #[.slice a n c, .func (.func 103) #[] #[.pointer (some ⟨Bm, 0, none⟩)]] w fun e w' => ∃ L2 q k c', e = .returned (.slice q k c') ∧ AppTo encD 3 base 35 a (L ++ L2) w q k c' w' ∧ L2.Nodup ∧ ∀ x, x ∈ L2 ↔ x ∈ E := by
  obtain ⟨D, hM, hD, hT⟩ := h.mapC
  have hhas : ∀ x : DF, Go.Maps.has D (litD x) = true ↔ x.1 ∈ E := fun x => by
    rw [show Go.Maps.has D (litD x) = hasD E x.1 from hD.has x.1 x.2]
    exact hasD_iff
  have hlen : ∀ xs : List DF, xs.Nodup → (∀ x ∈ xs, Go.Maps.has D (litD x) = true) → xs.length ≤ 100000 := fun xs h1 h2 => by
    have h3 : (xs.map (·.1)).length ≤ E.length := nodup_most1 (List.Pairwise.map _ (fun a b hab c => hab (Subtype.ext c)) h1) fun x hx => by
      obtain ⟨y, hy, rfl⟩ := List.mem_map.1 hx
      exact (hhas y).1 (h2 y hy)
    rw [List.length_map] at h3
    omega
  have hau := own_user hown
  refine (appSeqD base a n c L 103 #[.pointer (some ⟨Bm, 0, none⟩)] (fun k => k = Bm ∨ mv = some k) _ _ w hown hbase (fun m hm => keysEachS m Bm mv D w hm hc hM) (enters_of Tryz.func103 (by kernel_rfl) rfl) (fun k hk => ?_) (fun xs hx => ?_)).mono ?_
  · rcases hk with rfl | hk
    · exact ⟨cell_lt hc, hBm⟩
    · exact ⟨(h.blk k hk).lt, fun hat => own_not_map hown hat (h.blk k hk)⟩
  · have := hlen xs hx.1 hx.2
    omega
  · rintro e w' ⟨xs, q, k, c', hS, rfl, hA⟩
    have hmem : ∀ x, x ∈ xs.map (·.1) ↔ x ∈ E := fun x => by
      rw [List.mem_map]
      constructor
      · rintro ⟨y, hy, rfl⟩
        exact (hhas y).1 ((hS.2 y).1 hy)
      · intro hx
        exact ⟨⟨x, hf x hx⟩, (hS.2 _).2 ((hhas _).2 hx), rfl⟩
    exact ⟨_, q, k, c', rfl, hA, List.Pairwise.map _ (fun a b hab c => hab (Subtype.ext c)) hS.1, hmem⟩

theorem mem_alive {m : MapN} {d : DotN} : d ∈ (aliveM m).map (·.dot) ↔ ∃ k, d ∈ dotsK m.kept m.dead k := by
  rw [List.mem_map]
  constructor
  · rintro ⟨e, he, rfl⟩
    rw [alive_is] at he
    obtain ⟨h1, h2⟩ := List.mem_filter.1 he
    exact ⟨kOf e.item, mem_dotsK.2 ⟨e, h1, rfl, h2, rfl⟩⟩
  · rintro ⟨k, hk⟩
    obtain ⟨e, h1, rfl, h2, h3⟩ := mem_dotsK.1 hk
    exact ⟨e, by rw [alive_is]; exact List.mem_filter.2 ⟨h1, h2⟩, rfl⟩

set_option maxRecDepth 100000 in
set_option maxHeartbeats 4000000 in
theorem mAliveA {w : World} {v : Value} {m : MapN} (h : ArgM w v m) : Calls Tryz.prog 42 #[v] w (GivesN (aliveM m) w) := by
  have HO := mOrNewI h
  have HG0 : ∀ (ww : World) p B rs, Real ww p B rs m → ∀ a n c L, RowOf encD 3 ww a n c L → (∀ x, x ∈ L ↔ ∃ k, x ∈ dotsK m.kept m.dead k) → n ≤ 100000 → Calls Tryz.prog 68 #[.pointer (some ⟨p, 0, none⟩), .slice a n c] ww (GivesN (aliveM m) ww) := fun ww p B rs hR a n c L hL hmem hn => by
    have hsub : ∀ e ∈ aliveM m, e ∈ m.kept := fun e he => by
      rw [alive_is] at he
      exact (List.mem_filter.1 he).1
    have hin : ∀ x ∈ L, ∃ r ∈ rs, r.e.dot = x := fun x hx => by
      obtain ⟨k, hk⟩ := (hmem x).1 hx
      obtain ⟨e, he, hd, -⟩ := mem_dotsK.1 hk
      rw [← hR.rs] at he
      obtain ⟨r, hr, rfl⟩ := List.mem_map.1 he
      exact ⟨r, hr, hd⟩
    have := gatherI hR a n c L hL (fun x hx => by
      obtain ⟨r, hr, rfl⟩ := hin x hx
      exact hR.fit (hR.rs ▸ List.mem_map.2 ⟨r, hr, rfl⟩)) hin hn
    have hs : sortD L = (aliveM m).map (·.dot) := by
      refine sorted_unique (sortD_sorted _) (List.pairwise_map.2 ?_) fun x => ?_
      · rw [alive_is]
        exact List.Pairwise.sublist List.filter_sublist hR.ok.ok.kept
      · rw [sortD_mem, hmem, mem_alive]
    rw [hs, gather_is hR.sorted (fun e he => by rw [hR.rs]; exact hsub e he)] at this
    exact this
  unfold GivesN at HG0 ⊢
  go_enter Tryz.func42, Tryz.ntmps42
  go_wp2_with fail
  refine HO.mono ?_
  rintro e w1 ⟨p, B, rs, rfl, hR, hx⟩
  have c3 := hR.obj.cell 3 rfl
  obtain ⟨mv, hmv⟩ : ∃ mv, B .keys = mv := ⟨_, rfl⟩
  rw [hmv] at c3
  rcases hR.keys with ⟨e0, h0⟩ | ⟨q, nq, D, e0, hm, hD⟩
  · rw [hmv] at e0
    subst e0
    have hrg := run_range_nilMap (P := Tryz.prog) w1 88 39 87 Tryz.underlying88
    have hnx : ∀ ty, (Instr.next (.pointer (some ⟨w1.heap.size, 0, none⟩)) false ty).run Tryz.prog (w1.alloc (.mapIter none 0 #[] 0)) = _ := fun ty => run_next_nilMap _ ty 0 0 #[]
    have bi := below_alloc w1 (.mapIter none 0 #[] 0)
    have HG := HG0 _ p B rs (hR.below bi) none 0 0 [] (RowOf.none encD 3 _) (fun x => ⟨fun c => absurd c List.not_mem_nil, fun ⟨k, hk⟩ => by
      have h2 := hR.of k
      rw [h0] at h2
      rcases h2 with ⟨-, e⟩ | ⟨b, n, D, e, -⟩
      · rw [e] at hk
        exact absurd hk List.not_mem_nil
      · cases e⟩) (by omega)
    go_wp2_with fail
    refine wp_loop_rounds 1 ?_
    rw [rounds_succ]
    go_wp2_with (go_at_call 68; (with_reducible refine HG.mono ?_); rintro e w4 ⟨a4, n4, c4, P, rfl, hP, hz4, ho4, hn4, hx4⟩)
    go_ret
    have hb := hx.trans (bi.mono hx.size)
    exact ⟨a4, n4, c4, P, rfl, hP, hz4.base hb.size, ho4, fun r hr k hk => Nat.le_trans hb.size (hn4 r hr k hk), hb.trans (hx4.mono hb.size)⟩
  · rw [hmv] at e0
    subst e0
    have hqk := hR.own_lt q (.inr ⟨.keys, hmv⟩)
    go_wp2_with (at_range; refine wpList_range_own _ rfl _ 88 rfl 39 87 keyedKey Tryz.underlying88 _ q nq _ rfl hm ?_; intro w0 hrg0 hg0 hs0)
    try go_frame
    have b0 : Below w1.heap.size w1 w0 := (Keeps.ofGrownBy hg0).below (Nat.le_refl _) (fun k _ e => by cases e)
    go_loopw [3] (fun s wr => ∃ (left : Lit → Bool) (cnt : Nat) (ks : List KF) (a0 : Option Addr) (k0 c0 : Nat) (L : List DotN), wr.ranges Tryz.prog 39 heldElem q w1.heap.size nq D left cnt ∧ Came litK D left ks ∧ s = .slice a0 k0 c0 ∧ OwnZ encD 3 w1.heap.size 35 a0 k0 c0 L wr ∧ Hid (∀ x, x ∈ L ↔ ∃ k ∈ ks, x ∈ dotsK m.kept m.dead k.1) ∧ L.Nodup ∧ Below w1.heap.size w1 wr) (fun _ wr => wr.rangeLeft q w1.heap.size)
    case atStart => exact ⟨_, _, [], none, 0, 0, [], hrg0, Came.start _ D, rfl, OwnZ.none _ _ _ _ _, fun x => ⟨fun c => absurd c List.not_mem_nil, fun ⟨k, hk, _⟩ => absurd hk List.not_mem_nil⟩, List.nodup_nil, b0⟩
    case round =>
      clear hrg0 hg0 hs0 b0 c3
      obtain ⟨left, cnt, ks, a0, k0, c0, L, hrg, hC, rfl, hz, hmem, hnd, hb⟩ := hrel
      have hLK : L.length ≤ 2048 := by
        have h1 : L.length ≤ (m.kept.map (·.dot)).length := nodup_most1 hnd fun x hx => by
          obtain ⟨k, hk, hd⟩ := (hmem.out x).1 hx
          obtain ⟨e, he, hd2, -⟩ := mem_dotsK.1 hd
          exact List.mem_map.2 ⟨e, he, hd2⟩
        have h2 := hR.few
        rw [List.length_map] at h1
        omega
      have hk0 : k0 ≤ 2048 := by have := hz.2.1; omega
      go_wp2_with (at_next; refine wpList_next_heldK rfl rfl _ rfl q w1.heap.size nq D _ _ rfl hrg ?_ ?_)
      · intro hc0 hl0
        have hall := hC.all hl0
        have HG := HG0 wr p B rs (hR.below hb) a0 k0 c0 L (hz.row encD_len) (fun x => by
          rw [hmem.out]
          constructor
          · rintro ⟨k, _, hk⟩
            exact ⟨k.1, hk⟩
          · rintro ⟨k, hk⟩
            obtain ⟨e, he, hd, ha, hke⟩ := mem_dotsK.1 hk
            have hf : fitK k := hke ▸ light_fitK (hR.light e he)
            refine ⟨⟨k, hf⟩, (hall.2 _).2 ?_, hk⟩
            have h1 := (hD.at_ k hf).has
            cases h2 : B (.of k) with
            | none =>
              have h3 := hR.of k
              rw [h2] at h3
              rcases h3 with ⟨-, e⟩ | ⟨b, n, D, e, -⟩
              · rw [e] at hk
                exact absurd hk List.not_mem_nil
              · cases e
            | some b =>
              rw [h2] at h1
              exact h1) (by omega)
        go_wp2_with (go_at_call 68; (with_reducible refine HG.mono ?_); rintro e w4 ⟨a4, n4, c4, P, rfl, hP, hz4, ho4, hn4, hx4⟩)
        go_ret
        have hbb := hx.trans (hb.mono hx.size)
        exact ⟨a4, n4, c4, P, rfl, hP, hz4.base hbb.size, ho4, fun r hr k hk => Nat.le_trans hbb.size (hn4 r hr k hk), hbb.trans (hx4.mono hbb.size)⟩
      · intro x1 x2 x3 hxx v w2 cnt2 hlk hat hrg2 hlt hg2 hs2 hen
        obtain ⟨x, hxe⟩ : ∃ x : KF, x = ⟨(x1, x2, x3), hxx⟩ := ⟨_, rfl⟩
        rw [← hxe] at hlk hat hrg2
        obtain ⟨b, hbx, rfl⟩ : ∃ b, B (.of x.1) = some b ∧ v = .map (some b) := by
          have h1 := hD.at_ x.1 x.2
          have h2 := h1.has
          rw [show Go.Maps.has D (keyT x.1) = true from Go.Maps.has_true_of_atKey hat] at h2
          cases h3 : B (.of x.1) with
          | none => rw [h3] at h2; simp at h2
          | some b =>
            rw [h3] at h1
            have h4 := (h1.at_ _ rfl .nil).symm.trans (hat .nil)
            cases h4
            exact ⟨b, rfl, rfl⟩
        have hh := Go.Maps.has_true_of_atKey hat
        have hC2 := hC.step litK_inj (key_lit x.2) hlk hh
        have hxn : x ∉ ks := fun c => by
          have := ((hC.mem x).1 c).2
          rw [hlk] at this
          cases this
        have k2 := Keeps.ofGrownBy hg2
        have hau := own_user hz
        have hri : ∀ j, At a0 j → j ≠ w1.heap.size := fun j hj c => by
          obtain ⟨o, ho, hs⟩ := ranges_iter hrg
          rw [← c, ] at ho
          rw [(hau j hj).2 o ho] at hs
          cases hs
        have hz2 := hz.keeps k2 (fun j hj c => hri j hj (Option.some.inj c).symm)
        have hb2 : Below w1.heap.size w1 w2 := hb.trans (k2.below hb.size (fun k _ e => by cases e; exact Nat.le_refl _))
        have b3 := below_alloc w2 (.cells #[.map (some b)] 87)
        have oc := (ObjAt.new w2 #[.map (some b)] 87).cell 0 rfl
        have hz3 := hz2.below b3 (Nat.le_refl _)
        have hb3 := hb2.trans (b3.mono hb2.size)
        have hrg3 := hrg2.alloc (.cells #[.map (some b)] 87)
        have hR3 := hR.below hb3
        have hof3 := hR3.of x.1
        rw [hbx] at hof3
        have hal2 := own_user hz2
        have HAp := appendS (Bm := w2.heap.size) w1.heap.size a0 k0 c0 L hz3 hb3.size hof3 oc (fun y hy => by
          obtain ⟨e, he, hd, -⟩ := mem_dotsK.1 hy
          exact hd ▸ hR.fit he) (Nat.le_trans (dotsK_few _ _ _) (Nat.le_trans hR.few (by omega))) (by omega) (fun c => absurd (hal2 _ c).1 (Nat.lt_irrefl _))
        have HM := keysMakeS (some b) w2
        have hndk := dotsK_nodup hR.ok.ok.kept m.dead x.1
        clear hs2 hat hz hz2
        go_wp2_with (first
          | (go_at_call 61; (with_reducible refine HM.mono ?_); rintro e w3 ⟨rfl, rfl⟩)
          | (go_at_call 74; (with_reducible refine HAp.mono ?_); rintro e w4 ⟨L2, a4, k4, c4, rfl, hA, hnd2, hmem2⟩))
        have hrg4 := hA.keeps.ranges (fun c => own_not_map hz3 c (ownsMap_blk hrg3.owns)) (fun c => by
          obtain ⟨o, ho, hs⟩ := ranges_iter hrg3
          rw [(own_user hz3 _ c).2 o ho] at hs
          cases hs) hrg3
        go_roundw
        case rel =>
          refine ⟨_, cnt2, ks ++ [x], a4, k4, c4, L ++ L2, hrg4, hC2, rfl, hA.own, fun y => ?_, List.nodup_append.2 ⟨hnd, hnd2, fun y hy z hz he => ?_⟩, hb3.trans (hA.keeps.below hb3.size fun j hj hc => ?_)⟩
          · rw [List.mem_append, hmem.out, hmem2]
            constructor
            · rintro (⟨k, h1, h2⟩ | h1)
              · exact ⟨k, List.mem_append.2 (.inl h1), h2⟩
              · exact ⟨x, List.mem_append.2 (.inr List.mem_cons_self), h1⟩
            · rintro ⟨k, h1, h2⟩
              rcases List.mem_append.1 h1 with h1 | h1
              · exact .inl ⟨k, h1, h2⟩
              · rw [List.mem_singleton.1 h1] at h2
                exact .inr h2
          · subst he
            obtain ⟨k, h1, h2⟩ := (hmem.out y).1 hy
            have h3 := (hmem2 y).1 hz
            obtain ⟨e, he, hd, -, hke⟩ := mem_dotsK.1 h2
            obtain ⟨e2, he2, hd2, -, hke2⟩ := mem_dotsK.1 h3
            have := one_dot hR.ok.ok.kept he he2 (hd.trans hd2.symm)
            subst this
            exact hxn ((Subtype.ext (hke.symm.trans hke2) : k = x) ▸ h1)
          · rcases hz3.head with ⟨e, -⟩ | ⟨g, e, hg, -⟩
            · rw [e] at hc
              exact absurd hc (at_none j)
            · rw [e] at hc
              have := at_some.1 hc
              dsimp only at this
              omega
        case measure => rw [hrg4.left_eq, hrg.left_eq]; exact hlt
end Go.Proofs.YtelgaglnmcggkaaGreatDoor

/- An event forgotten. -/
namespace Go.Proofs.YtelgaglnmcggkaaGreatDoor
open Go.RowKit
set_option linter.unusedVariables false
set_option linter.unusedSimpArgs false

theorem encO_all (o : Option EvR) : (encO o).toArray.all (·.oneCell') = true := encO_one o
theorem map_erase {α β : Type} (f : α → β) : ∀ (l : List α) (i : Nat), (l.eraseIdx i).map f = (l.map f).eraseIdx i
  | [], i => by simp
  | a :: t, 0 => by simp
  | a :: t, i + 1 => by simp [map_erase f t i]
def kindO (o : Option EvR) : Int := match o with
  | none => 0
  | some r => r.e.kind
/-- Where a dot's kept event stands. -/
theorem look_at {rs : List EvR} (hs : SortedE (rs.map (·.e))) {d : DotN} {r : EvR} (h : lookR rs d = some r) : rs[findE (rs.map (·.e)) d]? = some r := by
  have h1 := find_look hs d
  rw [h, List.getElem?_map] at h1
  cases h2 : rs[findE (rs.map (·.e)) d]? with
  | none => rw [h2] at h1; cases h1
  | some q =>
    rw [h2] at h1
    have h3 : q.e = r.e := Option.some.inj h1
    have h4 := lookR_mem hs (List.mem_of_getElem? h2)
    obtain ⟨h5, h6⟩ := lookR_some h
    rw [h3, h6, h] at h4
    rw [Option.some.inj h4]
theorem forget_none {m : MapN} {rs : List EvR} (hrs : rs.map (·.e) = m.kept) (hs : SortedE (rs.map (·.e))) {d : DotN} (h : lookR rs d = none) : forgetM m d = (m, false) := by
  have h1 := find_look hs d
  rw [h, hrs] at h1
  unfold forgetM
  rw [h1]
  rfl
theorem forget_stays {m : MapN} {rs : List EvR} (hrs : rs.map (·.e) = m.kept) (hs : SortedE (rs.map (·.e))) {d : DotN} {r : EvR} (h : lookR rs d = some r) (hk : (r.e.kind == 1 && !hasD m.dead d) = true) : forgetM m d = (m, false) := by
  have h1 := find_look hs d
  rw [h, hrs] at h1
  unfold forgetM
  rw [h1]
  simp only [Option.map_some]
  rw [if_pos hk]
theorem forget_goes {m : MapN} {rs : List EvR} (hrs : rs.map (·.e) = m.kept) (hs : SortedE (rs.map (·.e))) {d : DotN} {r : EvR} (h : lookR rs d = some r) (hk : (r.e.kind == 1 && !hasD m.dead d) = false) : forgetM m d = (⟨m.ctx, m.kept.eraseIdx (findE m.kept d), m.dead⟩, true) := by
  have h1 := find_look hs d
  rw [h, hrs] at h1
  unfold forgetM
  rw [h1]
  simp only [Option.map_some]
  rw [if_neg (by rw [hk]; decide)]
/-- The map without that event. -/
theorem Real.forget {w w' : World} {p : Nat} {B : Slots} {rs : List EvR} {m : MapN} (h : Real w p B rs m) {d : DotN} {r : EvR} (hl : lookR rs d = some r) (hk : (r.e.kind == 1 && !hasD m.dead d) = false) {b n : Nat} {D : DataW Value} (hb : B .kept = some b) (hD : KeptD D rs) (hT : Go.Maps.Tidy D) (hm : w'.ownsMap Tryz.prog 35 heldElem b n (D.del (keyD d))) (hkp : Keeps (fun k => k = b) w w') : Step w w' p B rs B (rs.eraseIdx (findE m.kept d)) (forgetM m d).1 := by
  obtain ⟨hr1, hrd⟩ := lookR_some hl
  have hi := look_at h.sorted hl
  rw [h.rs] at hi
  have hx : FitD r.e.dot := h.fit (h.rs ▸ List.mem_map.2 ⟨r, hr1, rfl⟩)
  have hkd := hD.forget hT h.sorted hi hx
  rw [hrd] at hkd
  have hfo := forget_oks d h.ok
  rw [forget_goes h.rs h.sorted hl hk] at hfo ⊢
  have hP := h.parts
  have hnp : p ≠ b := fun e => h.not_obj .kept (e ▸ hb)
  have hP2 : Parts w' p B (rs.eraseIdx (findE m.kept d)) m.ctx m.dead (dotsK m.kept m.dead) := by
    refine hP.set .kept (fun k q => by cases q) (fun _ _ => rfl) (hkp.mono fun k _ e => .inr (e ▸ hb)) (hP.obj.keeps hkp hnp) (fun b e => .inl e) (fun c => absurd rfl c) (fun _ => rfl) (fun _ => rfl) ?_ (fun y hy => ?_)
    · show KeptIs w' (B .kept) _
      rw [hb]
      exact .inr ⟨b, n, _, rfl, hm, hkd⟩
    · have hy2 : y ∈ rs := (List.eraseIdx_sublist rs _).subset hy
      exact over_keeps (hP.over y hy2) hkp fun k hk1 hc => hP.over_apart y hy2 k hk1 (.inr ⟨.kept, hc ▸ hb⟩)
  have hki : m.kept[findE m.kept d]? = some r.e := by
    have := find_look h.sorted d
    rw [hl, h.rs] at this
    exact this
  have hal : aliveB m.dead r.e = false := by unfold aliveB; rw [hrd]; exact hk
  have hdk : ∀ k, dotsK m.kept m.dead k = dotsK (m.kept.eraseIdx (findE m.kept d)) m.dead k := fun k => (dotsK_forget hki hal k).symm
  refine ⟨Parts.real (m := ⟨m.ctx, m.kept.eraseIdx (findE m.kept d), m.dead⟩) hP2 hdk (fun k e => h.nothing k ((hdk k).trans e)) ?_ hfo.1 (Nat.le_trans hfo.2 h.few) (fun e he => h.light e ((List.eraseIdx_sublist _ _).subset he)), hkp.mono fun k _ e => .inr ⟨.kept, e ▸ hb⟩, fun i b e => .inl ⟨i, e⟩, fun k hk2 => ?_⟩
  · rw [← h.rs, map_erase]
  · obtain ⟨y, hy, hk3⟩ := hk2
    exact .inl ⟨y, (List.eraseIdx_sublist _ _).subset hy, hk3⟩

set_option maxRecDepth 100000 in
set_option maxHeartbeats 4000000 in
theorem mForgetI {w : World} {p : Nat} {B : Slots} {rs : List EvR} {m : MapN} (h : Real w p B rs m) (d : DotN) (hx : FitD d) : Calls Tryz.prog 17 #[.pointer (some ⟨p, 0, none⟩), .agg #[.int .i64 d.dev, .int .i64 d.inc, .int .i64 d.seq]] w fun e w' => e = .returned (.bool (forgetM m d).2) ∧ ∃ rs', Step w w' p B rs B rs' (forgetM m d).1 := by
  have HO := fun v => mOrNewS p v
  obtain ⟨o, ho⟩ : ∃ o, lookR rs d = o := ⟨_, rfl⟩
  obtain ⟨A, hA⟩ : ∃ A, (encO o).toArray = A := ⟨_, rfl⟩
  obtain ⟨is, his⟩ : ∃ is, o.isSome = is := ⟨_, rfl⟩
  have hLK : ∀ w', KeptIs w' (B .kept) rs → (Instr.lookup 86 (.map (B .kept)) (.agg #[.int .i64 d.dev, .int .i64 d.inc, .int .i64 d.seq]) true).run Tryz.prog w' = .ok (.tuple #[.agg A, .bool is]) w' := fun w' hk' => by
    have := (kept_look hk' hx).2
    rw [ho, hA, his] at this
    exact this
  have zA : A.size = 19 := by rw [← hA]; exact encO_size o
  have honeA : A.all (·.oneCell') = true := by rw [← hA]; exact encO_one o
  have hi6 : A.toList[6]? = some (.int .i64 (kindO o)) := by rw [← hA]; cases o <;> rfl
  have hdk := key_dot hx
  have HD := fun v (hv : Real v p B rs m) => mDeadP hv.parts d hx
  have hnone := fun (e : o = none) => forget_none h.rs h.sorted (ho.trans e)
  have hstay := fun r (e : o = some r) hk => forget_stays h.rs h.sorted (ho.trans e) hk
  have hgo := fun r (e : o = some r) hk => forget_goes h.rs h.sorted (ho.trans e) hk
  have hforg := fun (v v' : World) (hv : Real v p B rs m) r (e : o = some r) hk b n D hb hD hT hm hkp => Real.forget (w' := v') hv (ho.trans e) hk (b := b) (n := n) (D := D) hb hD hT hm hkp
  obtain ⟨dev, inc, seq⟩ := d
  dsimp only at *
  obtain ⟨bd, hbd⟩ : ∃ bd, w.heap.size = bd := ⟨_, rfl⟩
  have o1 := ObjAt.new w #[.int .i64 dev, .int .i64 inc, .int .i64 seq] 35
  have b1 := below_alloc w (.cells #[.int .i64 dev, .int .i64 inc, .int .i64 seq] 35)
  have h1 := h.below b1
  have hlp := h.obj.lt
  rw [hbd] at o1
  generalize hw1 : w.alloc (.cells #[.int .i64 dev, .int .i64 inc, .int .i64 seq] 35) = w1 at *
  have l1 := o1.lt
  have hS1 : ∀ v, Below w1.heap.size w1 v → v.cell? ⟨p, 1, none⟩ = some (.map (B .kept)) ∧ v.cell? ⟨bd, 0, none⟩ = some (.int .i64 dev) ∧ v.cell? ⟨bd, 1, none⟩ = some (.int .i64 inc) ∧ v.cell? ⟨bd, 2, none⟩ = some (.int .i64 seq) ∧ KeptIs v (B .kept) rs := fun v hv => ⟨(h1.below hv).obj.cell 1 rfl, (o1.below hv l1).cell 0 rfl, (o1.below hv l1).cell 1 rfl, (o1.below hv l1).cell 2 rfl, (h1.below hv).kept⟩
  have hb1 : Below w1.heap.size w1 w1.drew := (Below.refl _ _).drew
  obtain ⟨Z, hZ⟩ : ∃ Z, (#[.int .i64 0, .int .i64 0, .int .i64 0, .int .i64 0, .int .i64 0, .int .i64 0, .int .i64 0, .string ⟨#[]⟩, .string ⟨#[]⟩, .string ⟨#[]⟩, .string ⟨#[]⟩, .bool false, .bool false, .bool false, .bool false, .int .i64 0, .int .i64 0, .int .i64 0, .slice none 0 0] : Array Value) = Z := ⟨_, rfl⟩
  have zZ : Z.size = 19 := by rw [← hZ]; rfl
  have zZl : Z.toList.length = 19 := by rw [Array.length_toList]; exact zZ
  obtain ⟨bk, hbk⟩ : ∃ bk, w1.heap.size = bk := ⟨_, rfl⟩
  have o7 : ObjAt (w1.drew.alloc (.cells Z 43)) bk Z.toList := hbk ▸ ObjAt.new w1.drew Z 43
  have c7 : Below w1.heap.size w1 (w1.drew.alloc (.cells Z 43)) := hb1.trans ((below_alloc w1.drew (.cells Z 43)).mono (Nat.le_refl _))
  have c8 := below_rowSet c7 (g := bk) (Nat.le_of_eq hbk) A
  go_enter Tryz.func17, Tryz.ntmps17
  go_wp2_with (go_at_call 58; (with_reducible refine (HO _).mono ?_); rintro e w2 ⟨rfl, rfl⟩)
  go_wp2_with fail
  refine wp_region_held_drew (S := fun w' => w'.cell? ⟨p, 1, none⟩ = some (.map (B .kept)) ∧ w'.cell? ⟨bd, 0, none⟩ = some (.int .i64 dev) ∧ w'.cell? ⟨bd, 1, none⟩ = some (.int .i64 inc) ∧ w'.cell? ⟨bd, 2, none⟩ = some (.int .i64 seq) ∧ KeptIs w' (B .kept) rs) (by kernel_rfl) (hS1 _ hb1) (fun hHeld => ?_)
  first
    | (refine wpAnyH_take (i := 0) rfl (by kernel_rfl) (by kernel_rfl) (by kernel_rfl) (fun _ _ _ h => h) (Or.inr ⟨by rfl, rfl⟩) (by assumption) ?_)
    | (refine wpAnyH_take (i := 0) (v := ?vb1) rfl (by kernel_rfl) (by kernel_rfl) (by kernel_rfl) (fun _ _ _ h => h) (Or.inl ⟨by rfl, ?hyb1⟩) (by assumption) ?rb1; case hyb1 => (rintro w' hS; obtain ⟨hs0, hs1, hs2, hs3, hs4⟩ := hS; go_simp; try with_reducible rfl))
  try simp only [List.getElem_toArray, List.getElem_cons_zero, Act.put, List.setIfInBounds_toArray, List.set_cons_zero, List.set_cons_succ]
  first
    | (refine wpAnyH_take (i := 1) rfl (by kernel_rfl) (by kernel_rfl) (by kernel_rfl) (fun _ _ _ h => h) (Or.inr ⟨by rfl, rfl⟩) (by assumption) ?_)
    | (refine wpAnyH_take (i := 1) (v := ?vb2) rfl (by kernel_rfl) (by kernel_rfl) (by kernel_rfl) (fun _ _ _ h => h) (Or.inl ⟨by rfl, ?hyb2⟩) (by assumption) ?rb2; case hyb2 => (rintro w' hS; obtain ⟨hs0, hs1, hs2, hs3, hs4⟩ := hS; go_simp; try with_reducible rfl))
  try simp only [List.getElem_toArray, List.getElem_cons_zero, List.getElem_cons_succ, Act.put, List.setIfInBounds_toArray, List.set_cons_zero, List.set_cons_succ]
  first
    | (refine wpAnyH_take (i := 2) rfl (by kernel_rfl) (by kernel_rfl) (by kernel_rfl) (fun _ _ _ h => h) (Or.inr ⟨by rfl, rfl⟩) (by assumption) ?_)
    | (refine wpAnyH_take (i := 2) (v := ?vb3) rfl (by kernel_rfl) (by kernel_rfl) (by kernel_rfl) (fun _ _ _ h => h) (Or.inl ⟨by rfl, ?hyb3⟩) (by assumption) ?rb3; case hyb3 => (rintro w' hS; obtain ⟨hs0, hs1, hs2, hs3, hs4⟩ := hS; go_simp; try with_reducible rfl))
  try simp only [List.getElem_toArray, List.getElem_cons_zero, List.getElem_cons_succ, Act.put, List.setIfInBounds_toArray, List.set_cons_zero, List.set_cons_succ]
  first
    | (refine wpAnyH_take (i := 3) rfl (by kernel_rfl) (by kernel_rfl) (by kernel_rfl) (fun _ _ _ h => h) (Or.inr ⟨by rfl, rfl⟩) (by assumption) ?_)
    | (refine wpAnyH_take (i := 3) (v := ?vb4) rfl (by kernel_rfl) (by kernel_rfl) (by kernel_rfl) (fun _ _ _ h => h) (Or.inl ⟨by rfl, ?hyb4⟩) (by assumption) ?rb4; case hyb4 => (rintro w' hS; obtain ⟨hs0, hs1, hs2, hs3, hs4⟩ := hS; go_simp; try with_reducible rfl))
  try simp only [List.getElem_toArray, List.getElem_cons_zero, List.getElem_cons_succ, Act.put, List.setIfInBounds_toArray, List.set_cons_zero, List.set_cons_succ]
  first
    | (refine wpAnyH_take (i := 4) rfl (by kernel_rfl) (by kernel_rfl) (by kernel_rfl) (fun _ _ _ h => h) (Or.inr ⟨by rfl, rfl⟩) (by assumption) ?_)
    | (refine wpAnyH_take (i := 4) (v := ?vb5) rfl (by kernel_rfl) (by kernel_rfl) (by kernel_rfl) (fun _ _ _ h => h) (Or.inl ⟨by rfl, ?hyb5⟩) (by assumption) ?rb5; case hyb5 => (rintro w' hS; obtain ⟨hs0, hs1, hs2, hs3, hs4⟩ := hS; go_simp; try with_reducible rfl))
  try simp only [List.getElem_toArray, List.getElem_cons_zero, List.getElem_cons_succ, Act.put, List.setIfInBounds_toArray, List.set_cons_zero, List.set_cons_succ]
  refine wpAnyH_take (i := 5) (v := .tuple #[.agg A, .bool is]) rfl (by kernel_rfl) (by kernel_rfl) (by kernel_rfl) (fun _ _ _ h => h) (Or.inl ⟨by rfl, fun w' hS => by obtain ⟨hs0, hs1, hs2, hs3, hs4⟩ := hS; exact exec_look (.tmp 13) (.tmp 14) 86 true rfl _ rfl _ rfl (hLK w' hs4)⟩) (by assumption) ?_
  try simp only [List.getElem_toArray, List.getElem_cons_zero, List.getElem_cons_succ, Act.put, List.setIfInBounds_toArray, List.set_cons_zero, List.set_cons_succ]
  first
    | (refine wpAnyH_take (i := 6) rfl (by kernel_rfl) (by kernel_rfl) (by kernel_rfl) (fun _ _ _ h => h) (Or.inr ⟨by rfl, rfl⟩) (by assumption) ?_)
    | (refine wpAnyH_take (i := 6) (v := ?vb6) rfl (by kernel_rfl) (by kernel_rfl) (by kernel_rfl) (fun _ _ _ h => h) (Or.inl ⟨by rfl, ?hyb6⟩) (by assumption) ?rb6; case hyb6 => (rintro w' hS; obtain ⟨hs0, hs1, hs2, hs3, hs4⟩ := hS; go_simp; try with_reducible rfl))
  try simp only [List.getElem_toArray, List.getElem_cons_zero, List.getElem_cons_succ, Act.put, List.setIfInBounds_toArray, List.set_cons_zero, List.set_cons_succ]
  first
    | (refine wpAnyH_take (i := 7) rfl (by kernel_rfl) (by kernel_rfl) (by kernel_rfl) (fun _ _ _ h => h) (Or.inr ⟨by rfl, rfl⟩) (by assumption) ?_)
    | (refine wpAnyH_take (i := 7) (v := ?vb7) rfl (by kernel_rfl) (by kernel_rfl) (by kernel_rfl) (fun _ _ _ h => h) (Or.inl ⟨by rfl, ?hyb7⟩) (by assumption) ?rb7; case hyb7 => (rintro w' hS; obtain ⟨hs0, hs1, hs2, hs3, hs4⟩ := hS; go_simp; try with_reducible rfl))
  try simp only [List.getElem_toArray, List.getElem_cons_zero, List.getElem_cons_succ, Act.put, List.setIfInBounds_toArray, List.set_cons_zero, List.set_cons_succ]
  first
    | (refine wpAnyH_take (i := 8) rfl (by kernel_rfl) (by kernel_rfl) (by kernel_rfl) (fun _ _ _ h => h) (Or.inr ⟨by rfl, rfl⟩) (by assumption) ?_)
    | (refine wpAnyH_take (i := 8) (v := ?vb8) rfl (by kernel_rfl) (by kernel_rfl) (by kernel_rfl) (fun _ _ _ h => h) (Or.inl ⟨by rfl, ?hyb8⟩) (by assumption) ?rb8; case hyb8 => (rintro w' hS; obtain ⟨hs0, hs1, hs2, hs3, hs4⟩ := hS; go_simp; try with_reducible rfl))
  try simp only [List.getElem_toArray, List.getElem_cons_zero, List.getElem_cons_succ, Act.put, List.setIfInBounds_toArray, List.set_cons_zero, List.set_cons_succ]
  refine wpAnyH_ready (rs := [9]) (by kernel_rfl) (by simp) ?_
  refine AllReadyH.cons (o := _) rfl (fun K hK => ?_) AllReadyH.nil
  go_simp
  skip
  try dsimp only
  refine hK.out _ _ (hS1 _ c7) (fun hHeld => ?_)
  clear hK K
  try simp only [List.getElem_toArray, List.getElem_cons_zero, List.getElem_cons_succ, Act.put, List.setIfInBounds_toArray, List.set_cons_zero, List.set_cons_succ]
  refine wpAnyH_ready (rs := [10]) (by kernel_rfl) (by simp) ?_
  refine AllReadyH.cons (o := _) rfl (fun K hK => ?_) AllReadyH.nil
  refine step_storeOver (by rfl) 43 (.tmp 5) (.tmp 16) (by rfl) bk Z.toList A 19 rfl rfl o7 (by kernel_rfl) zZl zA honeA ?_
  try dsimp only
  refine hK.out _ _ (hS1 _ c8) (fun hHeld => ?_)
  clear hK K
  try simp only [List.getElem_toArray, List.getElem_cons_zero, List.getElem_cons_succ, Act.put, List.setIfInBounds_toArray, List.set_cons_zero, List.set_cons_succ]
  first
    | (refine wpAnyH_take (i := 11) rfl (by kernel_rfl) (by kernel_rfl) (by kernel_rfl) (fun _ _ _ h => h) (Or.inr ⟨by rfl, rfl⟩) (by assumption) ?_)
    | (refine wpAnyH_take (i := 11) (v := ?vb9) rfl (by kernel_rfl) (by kernel_rfl) (by kernel_rfl) (fun _ _ _ h => h) (Or.inl ⟨by rfl, ?hyb9⟩) (by assumption) ?rb9; case hyb9 => (rintro w' hS; obtain ⟨hs0, hs1, hs2, hs3, hs4⟩ := hS; go_simp; try with_reducible rfl))
  try simp only [List.getElem_toArray, List.getElem_cons_zero, List.getElem_cons_succ, Act.put, List.setIfInBounds_toArray, List.set_cons_zero, List.set_cons_succ]
  refine wpAnyH_done (by kernel_rfl) ?_ _
  have o9 : ObjAt ((w1.alloc (.cells Z 43)).drew.setRow bk A) bk A.toList := o7.setRow A
  have c9 : Below w1.heap.size w1 ((w1.alloc (.cells Z 43)).drew.setRow bk A) := c8
  clear c8
  have c8 := c9
  clear c9
  have R9 := h1.below c8
  have d9 := o1.below c8 l1
  have b9 := b1.trans (c8.mono b1.size)
  clear hS1 hb1 o7 c7 c8 h1 o1 hLK hHeld hZ
  generalize ((w1.alloc (.cells Z 43)).drew.setRow bk A) = w3 at *
  have y6 := o9.cell 6 hi6
  have z0 := d9.cell 0 rfl; have z1 := d9.cell 1 rfl; have z2 := d9.cell 2 rfl
  have ld9 := d9.lt
  have HD9 := HD _ R9
  clear HD
  cases o with
  | none =>
    obtain rfl : is = false := his.symm
    have hpl := Lib.hid (hnone rfl)
    clear hnone hstay hgo hforg
    go_wp2
    go_ret
    refine ⟨?_, rs, ?_⟩
    · first | (rw [hpl.out]; rfl) | (rw [hpl.out])
    · rw [hpl.out]
      exact Step.refl h b9
  | some r =>
    obtain rfl : is = true := his.symm
    have hst := hstay r rfl
    have hgs := hgo r rfl
    have hfr := fun (v v' : World) (hv : Real v p B rs m) hk b n D hb hD hT hm hkp => hforg v v' hv r rfl hk b n D hb hD hT hm hkp
    clear hnone hstay hgo hforg
    obtain ⟨kd, hkd⟩ : ∃ kd, r.e.kind = kd := ⟨_, rfl⟩
    rw [show kindO (some r) = r.e.kind from rfl, hkd] at y6
    rw [hkd] at hst hgs
    simp only [hkd] at hfr
    obtain ⟨bq, nq, Dq, e0, hmq0, hDq⟩ : ∃ bq nq Dq, B .kept = some bq ∧ w3.ownsMap Tryz.prog 35 heldElem bq nq Dq ∧ KeptD Dq rs := by
      rcases R9.kept with ⟨e, hn⟩ | ⟨b, n, D, e, hm, hD⟩
      · rw [hn] at ho
        cases ho
      · exact ⟨b, n, D, e, hm, hD⟩
    have nqp : bq ≠ p := fun c => R9.not_obj .kept (c ▸ e0)
    have nqd : bq ≠ bd := (ownsMap_blk hmq0).not_obj d9
    have hTq := hmq0.tidy keyedDot
    have hbf := R9.blk .kept bq e0
    by_cases hk1 : kd = 1
    · have t1 : (kd == 1) = true := by rw [hk1]; rfl
      rw [t1] at hst hgs
      simp only [t1] at hfr
      clear hk1
      cases hdd : hasD m.dead ⟨dev, inc, seq⟩ with
      | false =>
        rw [hdd] at HD9
        have hpl := Lib.hid (hst (by rw [hdd]; rfl))
        clear hst hgs hfr
        go_wp2_with (go_at_call 34; (with_reducible refine HD9.mono ?_); rintro e w4 ⟨rfl, hx4⟩)
        go_ret
        refine ⟨?_, rs, ?_⟩
        · first | (rw [hpl.out]; rfl) | (rw [hpl.out])
        · rw [hpl.out]
          exact Step.refl h (b9.trans (hx4.mono b9.size))
      | true =>
        rw [hdd] at HD9
        have hpl := Lib.hid (hgs (by rw [hdd]; rfl))
        have hfk := fun (v v' : World) (hv : Real v p B rs m) => hfr v v' hv (by rw [hdd]; rfl)
        clear hst hgs hfr
        go_wp2_with (go_at_call 34; (with_reducible refine HD9.mono ?_); rintro e w4 ⟨rfl, hx4⟩)
        have hR5 := R9.below hx4
        have od5 := d9.below hx4 ld9
        have p0 := hR5.obj.cell 1 rfl
        rw [e0] at p0
        have y0 := od5.cell 0 rfl; have y1 := od5.cell 1 rfl; have y2 := od5.cell 2 rfl
        have hmq := (Keeps.new (F := fun _ => False) hx4).grownBy (fun h => h) hmq0
        refine wp_region_held_drew (S := fun w' => w'.cell? ⟨p, 1, none⟩ = some (.map (some bq)) ∧ w'.cell? ⟨bd, 0, none⟩ = some (.int .i64 dev) ∧ w'.cell? ⟨bd, 1, none⟩ = some (.int .i64 inc) ∧ w'.cell? ⟨bd, 2, none⟩ = some (.int .i64 seq)) (by kernel_rfl) (⟨p0, y0, y1, y2⟩) (fun hHeld => ?_)
        first
          | (refine wpAnyH_take (i := 0) rfl (by kernel_rfl) (by kernel_rfl) (by kernel_rfl) (fun _ _ _ h => h) (Or.inr ⟨by rfl, rfl⟩) (by assumption) ?_)
          | (refine wpAnyH_take (i := 0) (v := ?vb10) rfl (by kernel_rfl) (by kernel_rfl) (by kernel_rfl) (fun _ _ _ h => h) (Or.inl ⟨by rfl, ?hyb10⟩) (by assumption) ?rb10; case hyb10 => (rintro w' hS; obtain ⟨hs0, hs1, hs2, hs3⟩ := hS; go_simp; try with_reducible rfl))
        try simp only [List.getElem_toArray, List.getElem_cons_zero, Act.put, List.setIfInBounds_toArray, List.set_cons_zero, List.set_cons_succ]
        first
          | (refine wpAnyH_take (i := 1) rfl (by kernel_rfl) (by kernel_rfl) (by kernel_rfl) (fun _ _ _ h => h) (Or.inr ⟨by rfl, rfl⟩) (by assumption) ?_)
          | (refine wpAnyH_take (i := 1) (v := ?vb11) rfl (by kernel_rfl) (by kernel_rfl) (by kernel_rfl) (fun _ _ _ h => h) (Or.inl ⟨by rfl, ?hyb11⟩) (by assumption) ?rb11; case hyb11 => (rintro w' hS; obtain ⟨hs0, hs1, hs2, hs3⟩ := hS; go_simp; try with_reducible rfl))
        try simp only [List.getElem_toArray, List.getElem_cons_zero, List.getElem_cons_succ, Act.put, List.setIfInBounds_toArray, List.set_cons_zero, List.set_cons_succ]
        first
          | (refine wpAnyH_take (i := 2) rfl (by kernel_rfl) (by kernel_rfl) (by kernel_rfl) (fun _ _ _ h => h) (Or.inr ⟨by rfl, rfl⟩) (by assumption) ?_)
          | (refine wpAnyH_take (i := 2) (v := ?vb12) rfl (by kernel_rfl) (by kernel_rfl) (by kernel_rfl) (fun _ _ _ h => h) (Or.inl ⟨by rfl, ?hyb12⟩) (by assumption) ?rb12; case hyb12 => (rintro w' hS; obtain ⟨hs0, hs1, hs2, hs3⟩ := hS; go_simp; try with_reducible rfl))
        try simp only [List.getElem_toArray, List.getElem_cons_zero, List.getElem_cons_succ, Act.put, List.setIfInBounds_toArray, List.set_cons_zero, List.set_cons_succ]
        first
          | (refine wpAnyH_take (i := 3) rfl (by kernel_rfl) (by kernel_rfl) (by kernel_rfl) (fun _ _ _ h => h) (Or.inr ⟨by rfl, rfl⟩) (by assumption) ?_)
          | (refine wpAnyH_take (i := 3) (v := ?vb13) rfl (by kernel_rfl) (by kernel_rfl) (by kernel_rfl) (fun _ _ _ h => h) (Or.inl ⟨by rfl, ?hyb13⟩) (by assumption) ?rb13; case hyb13 => (rintro w' hS; obtain ⟨hs0, hs1, hs2, hs3⟩ := hS; go_simp; try with_reducible rfl))
        try simp only [List.getElem_toArray, List.getElem_cons_zero, List.getElem_cons_succ, Act.put, List.setIfInBounds_toArray, List.set_cons_zero, List.set_cons_succ]
        first
          | (refine wpAnyH_take (i := 4) rfl (by kernel_rfl) (by kernel_rfl) (by kernel_rfl) (fun _ _ _ h => h) (Or.inr ⟨by rfl, rfl⟩) (by assumption) ?_)
          | (refine wpAnyH_take (i := 4) (v := ?vb14) rfl (by kernel_rfl) (by kernel_rfl) (by kernel_rfl) (fun _ _ _ h => h) (Or.inl ⟨by rfl, ?hyb14⟩) (by assumption) ?rb14; case hyb14 => (rintro w' hS; obtain ⟨hs0, hs1, hs2, hs3⟩ := hS; go_simp; try with_reducible rfl))
        try simp only [List.getElem_toArray, List.getElem_cons_zero, List.getElem_cons_succ, Act.put, List.setIfInBounds_toArray, List.set_cons_zero, List.set_cons_succ]
        refine wpAnyH_ready (rs := [5]) (by kernel_rfl) (by simp) ?_
        refine AllReadyH.cons (o := _) rfl (fun K hK => ?_) AllReadyH.nil
        refine step_delete (by rfl) (.tmp 34) (.tmp 35) 86 35 (by rfl) 43 keyedDot Tryz.underlying86 heldElem bq nq _ rfl hmq.drew _ _ rfl hdk ?_; intro w6 hm6 hk6; have ob6 := hR5.obj.drew.keeps hk6 (fun c => nqp c.symm); have od6 := od5.drew.keeps hk6 (fun c => nqd c.symm); have x0 := ob6.cell 1 rfl; rw [e0] at x0
        try dsimp only
        refine hK.out _ _ (⟨x0, od6.cell 0 rfl, od6.cell 1 rfl, od6.cell 2 rfl⟩) (fun hHeld => ?_)
        clear hK K
        try simp only [List.getElem_toArray, List.getElem_cons_zero, List.getElem_cons_succ, Act.put, List.setIfInBounds_toArray, List.set_cons_zero, List.set_cons_succ]
        refine wpAnyH_done (by kernel_rfl) ?_ _
        go_wp2
        go_ret
        have hb5 := (b9.trans (hx4.mono b9.size)).trans ((Below.refl w4.heap.size w4).drew.mono (b9.trans (hx4.mono b9.size)).size)
        refine ⟨?_, _, (Step.refl h hb5).trans (hfk _ w6 (h.below hb5) bq nq Dq e0 hDq hTq hm6 hk6)⟩
        first | (rw [hpl.out]; rfl) | (rw [hpl.out])
    · have t1 : (kd == 1) = false := by simpa using hk1
      rw [t1] at hst hgs
      simp only [t1] at hfr
      have hpl := Lib.hid (hgs rfl)
      have hfk := fun (v v' : World) (hv : Real v p B rs m) => hfr v v' hv rfl
      have hx4 : Below w3.heap.size w3 w3 := Below.refl _ _
      clear hst hgs hfr
      go_wp2_with fail
      have hR5 := R9.below hx4
      have od5 := d9.below hx4 ld9
      have p0 := hR5.obj.cell 1 rfl
      rw [e0] at p0
      have y0 := od5.cell 0 rfl; have y1 := od5.cell 1 rfl; have y2 := od5.cell 2 rfl
      have hmq := (Keeps.new (F := fun _ => False) hx4).grownBy (fun h => h) hmq0
      refine wp_region_held_drew (S := fun w' => w'.cell? ⟨p, 1, none⟩ = some (.map (some bq)) ∧ w'.cell? ⟨bd, 0, none⟩ = some (.int .i64 dev) ∧ w'.cell? ⟨bd, 1, none⟩ = some (.int .i64 inc) ∧ w'.cell? ⟨bd, 2, none⟩ = some (.int .i64 seq)) (by kernel_rfl) (⟨p0, y0, y1, y2⟩) (fun hHeld => ?_)
      first
        | (refine wpAnyH_take (i := 0) rfl (by kernel_rfl) (by kernel_rfl) (by kernel_rfl) (fun _ _ _ h => h) (Or.inr ⟨by rfl, rfl⟩) (by assumption) ?_)
        | (refine wpAnyH_take (i := 0) (v := ?vb15) rfl (by kernel_rfl) (by kernel_rfl) (by kernel_rfl) (fun _ _ _ h => h) (Or.inl ⟨by rfl, ?hyb15⟩) (by assumption) ?rb15; case hyb15 => (rintro w' hS; obtain ⟨hs0, hs1, hs2, hs3⟩ := hS; go_simp; try with_reducible rfl))
      try simp only [List.getElem_toArray, List.getElem_cons_zero, Act.put, List.setIfInBounds_toArray, List.set_cons_zero, List.set_cons_succ]
      first
        | (refine wpAnyH_take (i := 1) rfl (by kernel_rfl) (by kernel_rfl) (by kernel_rfl) (fun _ _ _ h => h) (Or.inr ⟨by rfl, rfl⟩) (by assumption) ?_)
        | (refine wpAnyH_take (i := 1) (v := ?vb16) rfl (by kernel_rfl) (by kernel_rfl) (by kernel_rfl) (fun _ _ _ h => h) (Or.inl ⟨by rfl, ?hyb16⟩) (by assumption) ?rb16; case hyb16 => (rintro w' hS; obtain ⟨hs0, hs1, hs2, hs3⟩ := hS; go_simp; try with_reducible rfl))
      try simp only [List.getElem_toArray, List.getElem_cons_zero, List.getElem_cons_succ, Act.put, List.setIfInBounds_toArray, List.set_cons_zero, List.set_cons_succ]
      first
        | (refine wpAnyH_take (i := 2) rfl (by kernel_rfl) (by kernel_rfl) (by kernel_rfl) (fun _ _ _ h => h) (Or.inr ⟨by rfl, rfl⟩) (by assumption) ?_)
        | (refine wpAnyH_take (i := 2) (v := ?vb17) rfl (by kernel_rfl) (by kernel_rfl) (by kernel_rfl) (fun _ _ _ h => h) (Or.inl ⟨by rfl, ?hyb17⟩) (by assumption) ?rb17; case hyb17 => (rintro w' hS; obtain ⟨hs0, hs1, hs2, hs3⟩ := hS; go_simp; try with_reducible rfl))
      try simp only [List.getElem_toArray, List.getElem_cons_zero, List.getElem_cons_succ, Act.put, List.setIfInBounds_toArray, List.set_cons_zero, List.set_cons_succ]
      first
        | (refine wpAnyH_take (i := 3) rfl (by kernel_rfl) (by kernel_rfl) (by kernel_rfl) (fun _ _ _ h => h) (Or.inr ⟨by rfl, rfl⟩) (by assumption) ?_)
        | (refine wpAnyH_take (i := 3) (v := ?vb18) rfl (by kernel_rfl) (by kernel_rfl) (by kernel_rfl) (fun _ _ _ h => h) (Or.inl ⟨by rfl, ?hyb18⟩) (by assumption) ?rb18; case hyb18 => (rintro w' hS; obtain ⟨hs0, hs1, hs2, hs3⟩ := hS; go_simp; try with_reducible rfl))
      try simp only [List.getElem_toArray, List.getElem_cons_zero, List.getElem_cons_succ, Act.put, List.setIfInBounds_toArray, List.set_cons_zero, List.set_cons_succ]
      first
        | (refine wpAnyH_take (i := 4) rfl (by kernel_rfl) (by kernel_rfl) (by kernel_rfl) (fun _ _ _ h => h) (Or.inr ⟨by rfl, rfl⟩) (by assumption) ?_)
        | (refine wpAnyH_take (i := 4) (v := ?vb19) rfl (by kernel_rfl) (by kernel_rfl) (by kernel_rfl) (fun _ _ _ h => h) (Or.inl ⟨by rfl, ?hyb19⟩) (by assumption) ?rb19; case hyb19 => (rintro w' hS; obtain ⟨hs0, hs1, hs2, hs3⟩ := hS; go_simp; try with_reducible rfl))
      try simp only [List.getElem_toArray, List.getElem_cons_zero, List.getElem_cons_succ, Act.put, List.setIfInBounds_toArray, List.set_cons_zero, List.set_cons_succ]
      refine wpAnyH_ready (rs := [5]) (by kernel_rfl) (by simp) ?_
      refine AllReadyH.cons (o := _) rfl (fun K hK => ?_) AllReadyH.nil
      refine step_delete (by rfl) (.tmp 34) (.tmp 35) 86 35 (by rfl) 43 keyedDot Tryz.underlying86 heldElem bq nq _ rfl hmq.drew _ _ rfl hdk ?_; intro w6 hm6 hk6; have ob6 := hR5.obj.drew.keeps hk6 (fun c => nqp c.symm); have od6 := od5.drew.keeps hk6 (fun c => nqd c.symm); have x0 := ob6.cell 1 rfl; rw [e0] at x0
      try dsimp only
      refine hK.out _ _ (⟨x0, od6.cell 0 rfl, od6.cell 1 rfl, od6.cell 2 rfl⟩) (fun hHeld => ?_)
      clear hK K
      try simp only [List.getElem_toArray, List.getElem_cons_zero, List.getElem_cons_succ, Act.put, List.setIfInBounds_toArray, List.set_cons_zero, List.set_cons_succ]
      refine wpAnyH_done (by kernel_rfl) ?_ _
      go_wp2
      go_ret
      have hb5 := (b9.trans (hx4.mono b9.size)).trans ((Below.refl w3.heap.size w3).drew.mono (b9.trans (hx4.mono b9.size)).size)
      refine ⟨?_, _, (Step.refl h hb5).trans (hfk _ w6 (h.below hb5) bq nq Dq e0 hDq hTq hm6 hk6)⟩
      first | (rw [hpl.out]; rfl) | (rw [hpl.out])
end Go.Proofs.YtelgaglnmcggkaaGreatDoor

/- A dead dot whose event came, dead no more. -/
namespace Go.Proofs.YtelgaglnmcggkaaGreatDoor
open Go.RowKit
set_option linter.unusedVariables false
set_option linter.unusedSimpArgs false

theorem look_out {rs : List EvR} (hs : SortedE (rs.map (·.e))) {d : DotN} : lookR rs d = none ↔ (rs.map (·.e)).length ≤ findE (rs.map (·.e)) d := by
  have h1 := find_look hs d
  constructor
  · intro h
    rw [h] at h1
    exact List.getElem?_eq_none_iff.1 h1
  · intro h
    rw [List.getElem?_eq_none_iff.2 h] at h1
    cases q : lookR rs d with
    | none => rfl
    | some r => rw [q] at h1; cases h1
theorem clear_not {m : MapN} {d : DotN} (h : ¬ (hasD m.dead d = true ∧ hasV m.ctx d = true ∧ m.kept.length ≤ findE m.kept d)) : clearM m d = (m, false) := by
  unfold clearM
  rw [if_neg h]
/-- The map without that dead dot. -/
theorem Real.clear {w w' : World} {p : Nat} {B : Slots} {rs : List EvR} {m : MapN} (h : Real w p B rs m) {d : DotN} (hx : FitD d) (hl : lookR rs d = none) (hh : hasV m.ctx d = true) (hd : hasD m.dead d = true) {b n : Nat} {D : DataW Unit} (hb : B .dead = some b) (hD : SetD D m.dead) (hT : Go.Maps.Tidy D) (hm : w'.ownsMap Tryz.prog 35 unitElem b n (D.del (keyD d))) (hkp : Keeps (fun k => k = b) w w') : clearM m d = (⟨m.ctx, m.kept, m.dead.filter fun y => !sameD y d⟩, true) ∧ Step w w' p B rs B rs (clearM m d).1 := by
  have hle : m.kept.length ≤ findE m.kept d := h.rs ▸ (look_out h.sorted).1 hl
  have hcl : clearM m d = (⟨m.ctx, m.kept, m.dead.filter fun y => !sameD y d⟩, true) := by
    unfold clearM
    rw [if_pos ⟨hd, hh, hle⟩]
  refine ⟨hcl, ?_⟩
  have hok := clear_oks d h.ok
  rw [hcl] at hok ⊢
  have hP := h.parts
  have hnp : p ≠ b := fun e => h.not_obj .dead (e ▸ hb)
  have hkd := hD.del hT (sortedD_nodup h.ok.dead) hx
  have hne : ∀ e ∈ m.kept, e.dot ≠ d := by
    intro e he
    rw [← h.rs] at he
    obtain ⟨r, hr, rfl⟩ := List.mem_map.1 he
    exact lookR_none hl r hr
  have hdk : ∀ k, dotsK m.kept m.dead k = dotsK m.kept (m.dead.filter fun y => !sameD y d) k := fun k => (dotsK_clear hne k).symm
  have hP2 : Parts w' p B rs m.ctx (m.dead.filter fun y => !sameD y d) (dotsK m.kept m.dead) := by
    refine hP.set .dead (fun k q => by cases q) (fun _ _ => rfl) (hkp.mono fun k _ e => .inr (e ▸ hb)) (hP.obj.keeps hkp hnp) (fun b e => .inl e) (fun _ => rfl) (fun _ => rfl) (fun c => absurd rfl c) ?_ (fun y hy => ?_)
    · show SetIs w' (B .dead) _
      rw [hb]
      exact .inr ⟨b, n, _, rfl, hm, hkd⟩
    · exact over_keeps (hP.over y hy) hkp fun k hk1 hc => hP.over_apart y hy k hk1 (.inr ⟨.dead, hc ▸ hb⟩)
  exact ⟨Parts.real (m := ⟨m.ctx, m.kept, m.dead.filter fun y => !sameD y d⟩) hP2 hdk (fun k e => h.nothing k ((hdk k).trans e)) h.rs hok.1 h.few h.light, hkp.mono fun k _ e => .inr ⟨.dead, e ▸ hb⟩, fun i b e => .inl ⟨i, e⟩, fun k hk2 => .inl hk2⟩

end Go.Proofs.YtelgaglnmcggkaaGreatDoor

/- A kept Put that is over nothing any more. -/
namespace Go.Proofs.YtelgaglnmcggkaaGreatDoor
open Go.RowKit
set_option linter.unusedVariables false
set_option linter.unusedSimpArgs false

theorem bare_none {m : MapN} {rs : List EvR} (hrs : rs.map (·.e) = m.kept) (hs : SortedE (rs.map (·.e))) {d : DotN} (h : lookR rs d = none) : bareM m d = (m, false) := by
  have h1 := find_look hs d
  rw [h, hrs] at h1
  unfold bareM
  rw [h1]
  rfl
theorem bare_stays {m : MapN} {rs : List EvR} (hrs : rs.map (·.e) = m.kept) (hs : SortedE (rs.map (·.e))) {d : DotN} {r : EvR} (h : lookR rs d = some r) (hk : ¬ (r.e.kind = 1 ∧ 0 < r.e.over.length)) : bareM m d = (m, false) := by
  have h1 := find_look hs d
  rw [h, hrs] at h1
  unfold bareM
  rw [h1]
  simp only [Option.map_some]
  rw [if_neg hk]
theorem bare_goes {m : MapN} {rs : List EvR} (hrs : rs.map (·.e) = m.kept) (hs : SortedE (rs.map (·.e))) {d : DotN} {r : EvR} (h : lookR rs d = some r) (hk : r.e.kind = 1 ∧ 0 < r.e.over.length) : bareM m d = (⟨m.ctx, m.kept.set (findE m.kept d) { r.e with over := [] }, m.dead⟩, true) := by
  have h1 := find_look hs d
  rw [h, hrs] at h1
  unfold bareM
  rw [h1]
  simp only [Option.map_some]
  rw [if_pos hk]
theorem map_set1 {α β : Type} (f : α → β) (x : α) : ∀ (l : List α) (i : Nat), (l.set i x).map f = (l.map f).set i (f x)
  | [], i => by simp
  | a :: t, 0 => by simp
  | a :: t, i + 1 => by simp [map_set1 f x t i]
/-- The event that is over nothing, as it lies. -/
def overNo (r : EvR) : EvR := ⟨{ r.e with over := [] }, none, 0⟩
theorem overNo_cells (r : EvR) : (encE r).set 18 (.slice none 0 0) = encE (overNo r) := rfl
/-- The map with that event over nothing. -/
theorem Real.bare {w w' : World} {p : Nat} {B : Slots} {rs : List EvR} {m : MapN} (h : Real w p B rs m) {d : DotN} {r : EvR} (hl : lookR rs d = some r) (hk : r.e.kind = 1 ∧ 0 < r.e.over.length) {b n : Nat} {D : DataW Value} (hb : B .kept = some b) (hD : KeptD D rs) (hT : Go.Maps.Tidy D) (hm : w'.ownsMap Tryz.prog 35 heldElem b n (D.put (keyD d) (.held (.agg (encE (overNo r)).toArray)))) (hkp : Keeps (fun k => k = b) w w') : Step w w' p B rs B (rs.set (findE m.kept d) (overNo r)) (bareM m d).1 := by
  obtain ⟨hr1, hrd⟩ := lookR_some hl
  have hi := look_at h.sorted hl
  rw [h.rs] at hi
  have hx : FitD r.e.dot := h.fit (h.rs ▸ List.mem_map.2 ⟨r, hr1, rfl⟩)
  have hkd := hD.bare hT h.sorted (q := overNo r) hi hx rfl
  rw [hrd] at hkd
  have hfo := bare_oks d h.ok
  have hli := bare_in (m := m) d
  rw [bare_goes h.rs h.sorted hl hk] at hfo hli ⊢
  have hP := h.parts
  have hnp : p ≠ b := fun e => h.not_obj .kept (e ▸ hb)
  have hmem : ∀ y ∈ rs.set (findE m.kept d) (overNo r), y ∈ rs ∨ y = overNo r := fun y hy => List.mem_or_eq_of_mem_set hy
  have hP2 : Parts w' p B (rs.set (findE m.kept d) (overNo r)) m.ctx m.dead (dotsK m.kept m.dead) := by
    refine hP.set .kept (fun k q => by cases q) (fun _ _ => rfl) (hkp.mono fun k _ e => .inr (e ▸ hb)) (hP.obj.keeps hkp hnp) (fun b e => .inl e) (fun c => absurd rfl c) (fun _ => rfl) (fun _ => rfl) ?_ (fun y hy => ?_)
    · show KeptIs w' (B .kept) _
      rw [hb]
      exact .inr ⟨b, n, _, rfl, hm, hkd⟩
    · rcases hmem y hy with hy2 | rfl
      · exact over_keeps (hP.over y hy2) hkp fun k hk1 hc => hP.over_apart y hy2 k hk1 (.inr ⟨.kept, hc ▸ hb⟩)
      · exact ⟨rfl, Nat.le_refl _, Nat.zero_le _, fun _ => rfl, fun i x hx => by cases hx⟩
  have hki : m.kept[findE m.kept d]? = some r.e := by
    have := find_look h.sorted d
    rw [hl, h.rs] at this
    exact this
  have hdk : ∀ k, dotsK m.kept m.dead k = dotsK (m.kept.set (findE m.kept d) { r.e with over := [] }) m.dead k := fun k => (dotsK_bare hki k).symm
  refine ⟨Parts.real (m := ⟨m.ctx, m.kept.set (findE m.kept d) { r.e with over := [] }, m.dead⟩) hP2 hdk (fun k e => h.nothing k ((hdk k).trans e)) ?_ hfo.1 (Nat.le_trans hfo.2 h.few) (fun e he => ?_), hkp.mono fun k _ e => .inr ⟨.kept, e ▸ hb⟩, fun i b e => .inl ⟨i, e⟩, fun k hk2 => ?_⟩
  · rw [map_set1, h.rs]
    rfl
  · rcases hli.1 e he with he | ⟨x, hx2, rfl⟩
    · exact h.light e he
    · exact light_bare (h.light x hx2)
  · obtain ⟨y, hy, hk3⟩ := hk2
    rcases hmem y hy with hy2 | rfl
    · exact .inl ⟨y, hy2, hk3⟩
    · exact absurd hk3 (at_none k)

end Go.Proofs.YtelgaglnmcggkaaGreatDoor

/- Which one of two events is ahead: by stamps, then by dots. -/
namespace Go.Proofs.YtelgaglnmcggkaaGreatDoor
open Go.RowKit
set_option linter.unusedVariables false
set_option linter.unusedSimpArgs false

/-- What stands ahead in an event's cells. -/
structure TopE (A : Array Value) (d : DotN) (s : StampN) : Prop where
  size : A.size = 19
  one : A.all (·.oneCell') = true
  c0 : A.toList[0]? = some (.int .i64 d.dev)
  c1 : A.toList[1]? = some (.int .i64 d.inc)
  c2 : A.toList[2]? = some (.int .i64 d.seq)
  c3 : A.toList[3]? = some (.int .i64 s.wall)
  c4 : A.toList[4]? = some (.int .i64 s.count)
  c5 : A.toList[5]? = some (.int .i64 s.dev)
def topD (o : Option EvR) : DotN := match o with | none => ⟨0, 0, 0⟩ | some r => r.e.dot
def topT (o : Option EvR) : StampN := match o with | none => ⟨0, 0, 0⟩ | some r => r.e.stamp
theorem TopE.of (o : Option EvR) : TopE (encO o).toArray (topD o) (topT o) := by
  refine ⟨encO_size o, encO_one o, ?_, ?_, ?_, ?_, ?_, ?_⟩ <;> (cases o <;> rfl)
def ltE (d : DotN) (s : StampN) (e : DotN) (t : StampN) : Bool := if sameT s t = true then lessD d e else lessT s t

end Go.Proofs.YtelgaglnmcggkaaGreatDoor

/- The greatest one of events, whatever order they come in: the winner. -/
namespace Go.Proofs.YtelgaglnmcggkaaGreatDoor
open Go.RowKit
set_option linter.unusedVariables false
set_option linter.unusedSimpArgs false

theorem lessT_iff {s t : StampN} : lessT s t = true ↔ s.wall < t.wall ∨ (s.wall = t.wall ∧ (s.count < t.count ∨ (s.count = t.count ∧ s.dev < t.dev))) := by
  unfold lessT
  by_cases h1 : s.wall = t.wall
  · rw [if_neg (by omega)]
    by_cases h2 : s.count = t.count
    · rw [if_neg (by omega), decide_eq_true_iff]
      omega
    · rw [if_pos h2, decide_eq_true_iff]
      omega
  · rw [if_pos h1, decide_eq_true_iff]
    omega
theorem ltE_iff {d e : DotN} {s t : StampN} : ltE d s e t = true ↔ (s.wall < t.wall ∨ (s.wall = t.wall ∧ (s.count < t.count ∨ (s.count = t.count ∧ (s.dev < t.dev ∨ (s.dev = t.dev ∧ (d.dev < e.dev ∨ (d.dev = e.dev ∧ (d.inc < e.inc ∨ (d.inc = e.inc ∧ d.seq < e.seq)))))))))) := by
  unfold ltE
  by_cases h : sameT s t = true
  · rw [if_pos h, lessD_iff]
    obtain rfl := sameT_iff.1 h
    omega
  · rw [if_neg h, lessT_iff]
    have h2 : ¬ (s.wall = t.wall ∧ s.count = t.count ∧ s.dev = t.dev) := fun ⟨c1, c2, c3⟩ => h (sameT_iff.2 (StampN.ext' c1 c2 c3))
    omega
def ltV (a b : EventN) : Bool := ltE a.dot a.stamp b.dot b.stamp
theorem ltV_trans {a b c : EventN} (h1 : ltV a b = true) (h2 : ltV b c = true) : ltV a c = true := by
  unfold ltV at *
  rw [ltE_iff] at *
  omega
theorem ltV_asymm {a b : EventN} (h1 : ltV a b = true) (h2 : ltV b a = true) : False := by
  unfold ltV at *
  rw [ltE_iff] at *
  omega
theorem ltV_total {a b : EventN} (h : ltV a b = false) : a.dot = b.dot ∨ ltV b a = true := by
  by_cases hd : a.dot = b.dot
  · exact .inl hd
  · refine .inr ?_
    have h1 : ¬ ltV a b = true := by rw [h]; exact Bool.noConfusion
    unfold ltV at *
    rw [ltE_iff] at *
    have h2 : ¬ (a.dot.dev = b.dot.dev ∧ a.dot.inc = b.dot.inc ∧ a.dot.seq = b.dot.seq) := fun ⟨c1, c2, c3⟩ => hd (by
      cases ha : a.dot; cases hb : b.dot
      rw [ha, hb] at c1 c2 c3
      dsimp only at c1 c2 c3
      rw [c1, c2, c3])
    omega
theorem best_lt {x e : EventN} (h : lessD x.dot e.dot = true) : (lessT e.stamp x.stamp = true → ltV e x = true) ∧ (¬ lessT e.stamp x.stamp = true → ltV x e = true) := by
  unfold ltV
  rw [ltE_iff, ltE_iff, lessT_iff]
  rw [lessD_iff] at h
  omega
theorem best_max : ∀ (L : List EventN) (acc : Option EventN), SortedE L → (∀ a, acc = some a → ∀ y ∈ L, lessD a.dot y.dot = true) →
    (∀ e, L.foldl bestM acc = some e → (acc = some e ∨ e ∈ L) ∧ (∀ y ∈ L, y = e ∨ ltV y e = true) ∧ ∀ a, acc = some a → a = e ∨ ltV a e = true) ∧ (L.foldl bestM acc = none → acc = none ∧ L = [])
  | [], acc, _, _ => ⟨fun e he => ⟨.inl he, fun y hy => absurd hy List.not_mem_nil, fun a ha => .inl (Option.some.inj (ha.symm.trans he))⟩, fun h => ⟨h, rfl⟩⟩
  | x :: t, acc, hs, ha => by
    obtain ⟨h1, h2⟩ := List.pairwise_cons.1 hs
    have hz : ∃ z, bestM acc x = some z ∧ (acc = some z ∨ z = x) ∧ (x = z ∨ ltV x z = true) ∧ (∀ a, acc = some a → a = z ∨ ltV a z = true) := by
      cases acc with
      | none => exact ⟨x, rfl, .inr rfl, .inl rfl, fun a c => by cases c⟩
      | some a =>
        have hb := best_lt (ha a rfl x (List.mem_cons_self ..))
        by_cases hc : lessT x.stamp a.stamp = true
        · refine ⟨a, ?_, .inl rfl, .inr (hb.1 hc), fun b c => .inl (Option.some.inj c).symm⟩
          unfold bestM
          dsimp only
          rw [if_pos hc]
        · refine ⟨x, ?_, .inr rfl, .inl rfl, fun b c => .inr (Option.some.inj c ▸ hb.2 hc)⟩
          unfold bestM
          dsimp only
          rw [if_neg hc]
    obtain ⟨z, z1, z2, z3, z4⟩ := hz
    have hzt : ∀ y ∈ t, lessD z.dot y.dot = true := fun y hy => by
      rcases z2 with c | c
      · exact ha z c y (List.mem_cons_of_mem _ hy)
      · subst c
        exact h1 y hy
    have ih := best_max t (some z) h2 fun a c y hy => by cases c; exact hzt y hy
    rw [List.foldl_cons, z1]
    refine ⟨fun e he => ?_, fun hn => ?_⟩
    · obtain ⟨i1, i2, i3⟩ := ih.1 e he
      have i4 := i3 z rfl
      have hup : ∀ y, (y = z ∨ ltV y z = true) → y = e ∨ ltV y e = true := fun y hy => by
        rcases hy with c | c
        · rw [c]
          exact i4
        · rcases i4 with c2 | c2
          · exact .inr (c2 ▸ c)
          · exact .inr (ltV_trans c c2)
      refine ⟨?_, fun y hy => ?_, fun a c => hup a (z4 a c)⟩
      · rcases i1 with c | c
        · have c2 : z = e := Option.some.inj c
          subst c2
          rcases z2 with c3 | c3
          · exact .inl c3
          · exact .inr (c3 ▸ List.mem_cons_self ..)
        · exact .inr (List.mem_cons_of_mem _ c)
      · rcases List.mem_cons.1 hy with c | c
        · exact hup y (c ▸ z3)
        · exact i2 y c
    · exact absurd (ih.2 hn).1 (by simp)
/-- What is greatest of a key's alive events is its winner. -/
theorem best_is {m : MapN} {x : ItemL} (hs : SortedE m.kept) {o : Option EvR} (h1 : ∀ r, o = some r → r.e ∈ keyM m x) (h2 : ∀ e ∈ keyM m x, ∃ r, o = some r ∧ (e = r.e ∨ ltV e r.e = true)) : winnerM m x = o.map (·.e) := by
  have hsk : SortedE (keyM m x) := by
    unfold keyM
    rw [alive_is]
    exact List.Pairwise.sublist (List.filter_sublist.trans List.filter_sublist) hs
  have hb := best_max (keyM m x) none hsk fun a c => by cases c
  unfold winnerM
  cases hw : (keyM m x).foldl bestM none with
  | none =>
    have hn := (hb.2 hw).2
    cases o with
    | none => rfl
    | some r =>
      have := h1 r rfl
      rw [hn] at this
      exact absurd this List.not_mem_nil
  | some e =>
    obtain ⟨i1, i2, -⟩ := hb.1 e hw
    have he : e ∈ keyM m x := i1.elim (fun c => by cases c) id
    obtain ⟨r, ho, hr⟩ := h2 e he
    rw [ho]
    rcases hr with c | c
    · rw [c]
      rfl
    · rcases i2 r.e (h1 r ho) with d | d
      · rw [Option.map_some, d]
      · exact absurd (ltV_asymm c d) id
theorem right_stampE {e : EventN} (h : rightE e = true) : rightT e.stamp = true := by
  unfold rightE headE at h
  simp only [Bool.and_eq_true] at h
  exact h.1.2.1
/-- An event that may be is greater than the zero one. -/
theorem zero_ltE {e : EventN} (h : rightE e = true) : ltE ⟨0, 0, 0⟩ ⟨0, 0, 0⟩ e.dot e.stamp = true := by
  have hd := lessD_iff.1 (zero_less (right_dotE h))
  have ht := rightT_iff.1 (right_stampE h)
  rw [ltE_iff]
  dsimp only at *
  omega
end Go.Proofs.YtelgaglnmcggkaaGreatDoor

/- The greatest event of a map of dots. -/
namespace Go.Proofs.YtelgaglnmcggkaaGreatDoor
open Go.RowKit
set_option linter.unusedVariables false
set_option linter.unusedSimpArgs false

theorem left_but {left : Lit → Bool} {x y : DotN} (hx : FitD x) (hy : FitD y) : (left (keyD y) && !(keyD y).sameKey (keyD x)) = false ↔ left (keyD y) = false ∨ y = x := by
  by_cases e : y = x
  · subst e
    rw [WideAt.sameKey_self (keyedDot.key (key_dot hy))]
    simp
  · rw [Go.Maps.sameKey_ne fun c => e (keyD_inj hy hx c)]
    simp [e]
theorem right_fitT {s : StampN} (h : rightT s = true) : FitT s := by
  have := rightT_iff.1 h
  refine ⟨?_, ?_, ?_⟩ <;> omega
/-- What is the greatest one of the events whose dots are done. -/
structure GreatO (rs : List EvR) (E : List DotN) (done : DotN → Prop) (o : Option EvR) : Prop where
  mem : ∀ r, o = some r → r ∈ rs ∧ r.e.dot ∈ E
  most : ∀ z ∈ rs, z.e.dot ∈ E → done z.e.dot → ∃ r, o = some r ∧ (z.e = r.e ∨ ltV z.e r.e = true)
theorem GreatO.more {rs : List EvR} {E : List DotN} {P : DotN → Prop} {o : Option EvR} (h : GreatO rs E P o) {Q : DotN → Prop} (hs : SortedE (rs.map (·.e))) {q : EvR} (hq : q ∈ rs) (hE : q.e.dot ∈ E) (hr : rightE q.e = true) (hQ : ∀ z ∈ rs, Q z.e.dot → P z.e.dot ∨ z.e.dot = q.e.dot) :
    (ltE (topD o) (topT o) q.e.dot q.e.stamp = true → GreatO rs E Q (some q)) ∧ (ltE (topD o) (topT o) q.e.dot q.e.stamp = false → GreatO rs E Q o) := by
  have hone : ∀ z ∈ rs, z.e.dot = q.e.dot → z.e = q.e := fun z hz hd => one_dot hs (List.mem_map.2 ⟨z, hz, rfl⟩) (List.mem_map.2 ⟨q, hq, rfl⟩) hd
  constructor
  · intro hlt
    refine ⟨fun r c => by cases c; exact ⟨hq, hE⟩, fun z hz hzE hd => ⟨q, rfl, ?_⟩⟩
    rcases hQ z hz hd with c | c
    · obtain ⟨r, ho, hr2⟩ := h.most z hz hzE c
      subst ho
      rcases hr2 with c2 | c2
      · refine .inr ?_
        rw [c2]
        exact hlt
      · exact .inr (ltV_trans c2 hlt)
    · exact .inl (hone z hz c)
  · intro hlt
    refine ⟨h.mem, fun z hz hzE hd => ?_⟩
    rcases hQ z hz hd with c | c
    · exact h.most z hz hzE c
    · have hze := hone z hz c
      cases o with
      | none =>
        rw [show ltE (topD none) (topT none) q.e.dot q.e.stamp = ltE ⟨0, 0, 0⟩ ⟨0, 0, 0⟩ q.e.dot q.e.stamp from rfl, zero_ltE hr] at hlt
        cases hlt
      | some r =>
        refine ⟨r, rfl, ?_⟩
        rw [hze]
        rcases ltV_total (a := r.e) (b := q.e) hlt with c2 | c2
        · exact .inl (hone r (h.mem r rfl).1 c2).symm
        · exact .inr c2
theorem GreatO.right {rs : List EvR} {E : List DotN} {P : DotN → Prop} {o : Option EvR} (h : GreatO rs E P o) (hr : ∀ r ∈ rs, rightE r.e = true) : FitT (topT o) := by
  cases o with
  | none => exact right_fitT (by rfl)
  | some r => exact right_fitT (right_stampE (hr r (h.mem r rfl).1))
theorem encO_getD (o : Option EvR) : encE (o.getD ⟨EventN.none, none, 0⟩) = encO o := by cases o <;> rfl

end Go.Proofs.YtelgaglnmcggkaaGreatDoor

/- The winner of a key. -/
namespace Go.Proofs.YtelgaglnmcggkaaGreatDoor
open Go.RowKit
set_option linter.unusedVariables false
set_option linter.unusedSimpArgs false

end Go.Proofs.YtelgaglnmcggkaaGreatDoor

/- A map built of a context, of events, of dead dots. -/
namespace Go.Proofs.YtelgaglnmcggkaaGreatDoor
open Go.RowKit Go.Shelf
set_option linter.unusedVariables false
set_option linter.unusedSimpArgs false
attribute [local go_sem] Oper.semAt_some

theorem cell_user {w : World} {k i : Nat} {v : Value} (hv : w.cell? ⟨k, i, none⟩ = some v) : ∀ o, w.heap[k]? = some o → sysObj o = false := by
  intro o ho
  simp only [World.cell?, ho] at hv
  cases o <;> first | rfl | (simp at hv)
theorem Real.sys {Z : Nat} {w w' : World} {p : Nat} {B : Slots} {rs : List EvR} {m : MapN} (h : Real w p B rs m) (hs : SysStep Z w w') : Real w' p B rs m :=
  h.keeps hs.keeps (fun ⟨_, o, ho, h1⟩ => by rw [h.obj.user o ho] at h1; cases h1) (fun i b e ⟨_, o, ho, h1⟩ => by rw [(h.blk i b e).user o ho] at h1; cases h1) (fun r hr k hk ⟨_, o, ho, h1⟩ => by
    obtain ⟨i, n, hv⟩ := over_cell (h.over r hr) k hk
    rw [cell_user hv o ho] at h1
    cases h1)
theorem dead_snoc (L : List DotN) (x : DotN) : sortD (sortD L ++ [x]) = sortD (L ++ [x]) :=
  sorted_unique (sortD_sorted _) (sortD_sorted _) fun y => by rw [sortD_mem, sortD_mem, List.mem_append, List.mem_append, sortD_mem]

/-- A map all of whose blocks are new. -/
structure NewMap (w W : World) (p : Nat) (B : Slots) (rs : List EvR) (m : MapN) : Prop where
  real : Real W p B rs m
  own : ∀ k, OwnB p B k → w.heap.size ≤ k
  over : ∀ k, OverB rs k → w.heap.size ≤ k
theorem NewMap.step {w W W' : World} {p : Nat} {B B' : Slots} {rs rs' : List EvR} {m m' : MapN} (h : NewMap w W p B rs m) (s : Step W W' p B rs B' rs' m') (hW : w.heap.size ≤ W.heap.size) : NewMap w W' p B' rs' m' := by
  refine ⟨s.real, ?_, fun k hk => (s.over k hk).elim (h.over k) (Nat.le_trans hW)⟩
  rintro k (rfl | ⟨i, e⟩)
  · exact h.own k (.inl rfl)
  · rcases s.own i k e with ⟨j, c⟩ | c
    · exact h.own k (.inr ⟨j, c⟩)
    · exact Nat.le_trans hW c
theorem NewMap.sys {Z : Nat} {w W W' : World} {p : Nat} {B : Slots} {rs : List EvR} {m : MapN} (h : NewMap w W p B rs m) (hs : SysStep Z W W') : NewMap w W' p B rs m := ⟨h.real.sys hs, h.own, h.over⟩
theorem NewMap.below {w W W' : World} {p : Nat} {B : Slots} {rs : List EvR} {m : MapN} (h : NewMap w W p B rs m) (hb : Below W.heap.size W W') : NewMap w W' p B rs m := ⟨h.real.below hb, h.own, h.over⟩

structure BuiltA (w W : World) (p bm : Nat) (m : MapN) : Prop where
  ex : ∃ B rs, NewMap w W p B rs m
  cell : ObjAt W bm [.pointer (some ⟨p, 0, none⟩)]
  below : Below w.heap.size w W
theorem BuiltA.sys {Z : Nat} {w X Y : World} {p bm : Nat} {m : MapN} (h : BuiltA w X p bm m) (hs : SysStep Z X Y) (hZ : w.heap.size ≤ Z) : BuiltA w Y p bm m := by
  obtain ⟨B, rs, h1⟩ := h.ex
  exact ⟨⟨B, rs, h1.sys hs⟩, h.cell.sys hs, h.below.trans (hs.below hZ h.below.size)⟩
theorem BuiltA.new {w X Y : World} {p bm : Nat} {m : MapN} (h : BuiltA w X p bm m) (hb : Below X.heap.size X Y) : BuiltA w Y p bm m := by
  obtain ⟨B, rs, h1⟩ := h.ex
  exact ⟨⟨B, rs, h1.below hb⟩, h.cell.below hb h.cell.lt, h.below.trans (hb.mono h.below.size)⟩
/-- A step of the map itself. -/
theorem BuiltA.step {w X Y : World} {p bm : Nat} {m m' : MapN} {B B' : Slots} {rs rs' : List EvR} (hpm : bm ≠ p) (h1 : NewMap w X p B rs m) (hc : ObjAt X bm [.pointer (some ⟨p, 0, none⟩)]) (hb : Below w.heap.size w X) (hs : Step X Y p B rs B' rs' m') : BuiltA w Y p bm m' ∧ ∀ {G : Nat → Prop}, (∀ k, G k → k < w.heap.size) → StaysG G X Y := by
  have hbo : ∀ k, OwnB p B k → k ≠ bm := by
    rintro k (rfl | ⟨i, e⟩)
    · exact Ne.symm hpm
    · exact (h1.real.blk i k e).not_obj hc
  exact ⟨⟨⟨B', rs', h1.step hs hb.size⟩, hc.keeps hs.keeps (fun c => hbo bm c rfl), hb.trans (hs.keeps.below hb.size (fun k _ hk => h1.own k hk))⟩, fun hG => StaysG.ofKeeps hs.keeps (fun k o hk ho => h1.real.own_user k hk o ho) (fun k hk hc => by have := hG k hk; have := h1.own k hc; omega)⟩
theorem fold_mem {ε : Type} (f : ε → EventN) : ∀ (xs : List ε) (K : List EventN) (e : EventN), e ∈ xs.foldl (fun K y => insE K (f y)) K ↔ e ∈ K ∨ ∃ y ∈ xs, e = f y
  | [], K, e => by simp
  | x :: t, K, e => by
    rw [List.foldl_cons, fold_mem f t, (insE_perm K (f x)).mem_iff, List.mem_cons]
    constructor
    · rintro ((h | h) | ⟨y, hy, h⟩)
      · exact .inr ⟨x, List.mem_cons_self .., h⟩
      · exact .inl h
      · exact .inr ⟨y, List.mem_cons_of_mem _ hy, h⟩
    · rintro (h | ⟨y, hy, h⟩)
      · exact .inl (.inr h)
      · rcases List.mem_cons.1 hy with rfl | hy
        · exact .inl (.inl h)
        · exact .inr ⟨y, hy, h⟩
theorem fold_length {ε : Type} (f : ε → EventN) : ∀ (xs : List ε) (K : List EventN), (xs.foldl (fun K y => insE K (f y)) K).length = K.length + xs.length
  | [], K => by simp
  | x :: t, K => by
    rw [List.foldl_cons, fold_length f t, (insE_perm K (f x)).length_eq, List.length_cons, List.length_cons]
    omega

end Go.Proofs.YtelgaglnmcggkaaGreatDoor

/- A copy of a map. -/
namespace Go.Proofs.YtelgaglnmcggkaaGreatDoor
open Go.RowKit Go.Shelf
set_option linter.unusedVariables false
set_option linter.unusedSimpArgs false

end Go.Proofs.YtelgaglnmcggkaaGreatDoor

/- A nil map of events. -/
namespace Go.Proofs.YtelgaglnmcggkaaGreatDoor
open Go.RowKit
set_option linter.unusedVariables false
set_option linter.unusedSimpArgs false

end Go.Proofs.YtelgaglnmcggkaaGreatDoor

/- What keeps dots from being dead ones. -/
namespace Go.Proofs.YtelgaglnmcggkaaGreatDoor
open Go.RowKit
set_option linter.unusedVariables false
set_option linter.unusedSimpArgs false

end Go.Proofs.YtelgaglnmcggkaaGreatDoor

/- What keeps events from being those that a map keeps. -/
namespace Go.Proofs.YtelgaglnmcggkaaGreatDoor
open Go.RowKit
set_option linter.unusedVariables false
set_option linter.unusedSimpArgs false

end Go.Proofs.YtelgaglnmcggkaaGreatDoor

/- A map loaded from its marks, its events, its dead dots. -/
namespace Go.Proofs.YtelgaglnmcggkaaGreatDoor
open Go.RowKit Go.Shelf
set_option linter.unusedVariables false
set_option linter.unusedSimpArgs false

end Go.Proofs.YtelgaglnmcggkaaGreatDoor

/- Contracts of layer 21, as the laws ask them: all but Winners. -/
namespace Go.Proofs.YtelgaglnmcggkaaGreatDoor
open Go.RowKit
set_option linter.unusedVariables false
set_option linter.unusedSimpArgs false

/-- A call that gives events, or dots, or marks. -/
def GivesEs (L : List EventN) (w : World) (en : Ending) (w' : World) : Prop :=
  ∃ a n c, en = .returned (.slice a n c) ∧ RowE w' a n c L ∧ Below w.heap.size w w'

def GivesDs (L : List DotN) (w : World) (en : Ending) (w' : World) : Prop :=
  ∃ a n c, en = .returned (.slice a n c) ∧ RowOf encD 3 w' a n c L ∧ Below w.heap.size w w'

/-- A call that changes a map: it is m then; of the event's dots it may read on. -/
def Turns (p : Nat) (F R : Nat → Prop) (a : Option Addr) (m : MapN) (v : Value) (w : World) (en : Ending) (w' : World) : Prop :=
  en = .returned v ∧ ∃ F' R', MapAt w' p F' R' m ∧ Keeps F w w' ∧ (∀ k, F' k → F k ∨ w.heap.size ≤ k) ∧ ∀ k, R' k → R k ∨ At a k ∨ w.heap.size ≤ k

/-- A call that gives events, or dots: they lie in blocks that the map reads only (R), or in new ones. -/
def GivesEr (R : Nat → Prop) (L : List EventN) (w : World) (en : Ending) (w' : World) : Prop :=
  ∃ a n c P, en = .returned (.slice a n c) ∧ P.map (·.e) = L ∧ RowOf encE 19 w' a n c P ∧ OversAt w' P ∧ (∀ k, At a k → (R k ∨ w.heap.size ≤ k) ∧ k < w'.heap.size) ∧ (∀ r ∈ P, ∀ k, At (overA r) k → R k ∨ w.heap.size ≤ k) ∧ Below w.heap.size w w'

theorem GivesEr.es {R : Nat → Prop} {L : List EventN} {w : World} {en : Ending} {w' : World} (h : GivesEr R L w en w') : GivesEs L w en w' := by
  obtain ⟨a, n, c, P, rfl, h1, h2, h3, -, -, h4⟩ := h
  exact ⟨a, n, c, rfl, ⟨P, h1, h2, h3⟩, h4⟩

def GivesDr (R : Nat → Prop) (L : List DotN) (w : World) (en : Ending) (w' : World) : Prop :=
  ∃ a n c, en = .returned (.slice a n c) ∧ RowOf encD 3 w' a n c L ∧ (∀ k, At a k → (R k ∨ w.heap.size ≤ k) ∧ k < w'.heap.size) ∧ Below w.heap.size w w'

theorem GivesDr.ds {R : Nat → Prop} {L : List DotN} {w : World} {en : Ending} {w' : World} (h : GivesDr R L w en w') : GivesDs L w en w' := by
  obtain ⟨a, n, c, rfl, h1, -, h2⟩ := h
  exact ⟨a, n, c, rfl, h1, h2⟩


/-! What the program's own contracts give, as the laws ask it. -/

theorem GivesN.er {R : Nat → Prop} {L : List EventN} {w : World} {en : Ending} {w' : World} (h : GivesN L w en w') : GivesEr R L w en w' := by
  obtain ⟨a, n, c, P, rfl, hP, hz, ho, hn, hx⟩ := h
  exact ⟨a, n, c, P, rfl, hP, hz.row encE_len, ho, fun k hk => ⟨.inr (hz.lt' k hk).1, (hz.lt' k hk).2⟩, fun r hr k hk => .inr (hn r hr k hk), hx⟩

/-- A map in new memory. -/
theorem NewMap.mapAt {w w' : World} {p : Nat} {B : Slots} {rs : List EvR} {m : MapN} (h : NewMap w w' p B rs m) : ∃ F R, MapAt w' p F R m ∧ (∀ k, F k → w.heap.size ≤ k) ∧ ∀ k, R k → w.heap.size ≤ k :=
  ⟨OwnB p B, OverB rs, ⟨.inl rfl, fun k hk => hk.elim (h.real.own_lt k) (h.real.over_lt k), fun k h1 h2 => h.real.over_apart k h2 h1, B, rs, h.real, fun i b e => .inr ⟨i, e⟩, fun r hr k hk => ⟨r, hr, hk⟩⟩, h.own, h.over⟩

theorem turns_of {p : Nat} {F R : Nat → Prop} {a : Option Addr} {m m' : MapN} {v : Value} {w w' : World} (h : MapAt w p F R m) {B : Slots} {rs : List EvR} (hF : ∀ i b, B i = some b → F b) (hR : ∀ r ∈ rs, ∀ k, At (overA r) k → R k) {B' : Slots} {rs' : List EvR} (s : Step w w' p B rs B' rs' m') : Turns p F R a m' v w (.returned v) w' := by
  obtain ⟨F', R', h1, h2, h3, h4⟩ := s.turns hF hR h
  exact ⟨rfl, F', R', h1, h2, h3, fun k hk => (h4 k hk).imp id .inr⟩

theorem mNewC (w : World) : Calls Tryz.prog 13 #[] w fun en w' => ∃ p F R, en = .returned (.pointer (some ⟨p, 0, none⟩)) ∧ MapAt w' p F R MapN.none ∧ (∀ k, F k ∨ R k → w.heap.size ≤ k) ∧ Below w.heap.size w w' := by
  refine (mNewI w).mono ?_
  rintro e w' ⟨p, rfl, hR, hb, hp⟩
  have hN : NewMap w w' p noSlots [] MapN.none := ⟨hR, fun k hk => by
    rcases hk with rfl | ⟨i, e⟩
    · exact hp
    · exact absurd e (by simp [noSlots]), fun k hk => (by obtain ⟨r, hr, -⟩ := hk; cases hr)⟩
  obtain ⟨F, R, h1, h2, h3⟩ := hN.mapAt
  exact ⟨p, F, R, rfl, h1, fun k hk => hk.elim (h2 k) (h3 k), hb⟩

theorem mApplyC (p : Nat) (F R : Nat → Prop) (m : MapN) (r : EvR) (A : Array Value) (hA : (encE r).toArray = A) (w : World) (h : MapAt w p F R m) (hE : RowOf encD 3 w r.a r.e.over.length r.c r.e.over) (hF : ∀ k, At (overA r) k → ¬ F k) (hl : lightE r.e = true) (hTb : OTb w) (hdn : m.dead.length ≤ 900000) :
    Calls Tryz.prog 15 #[.pointer (some ⟨p, 0, none⟩), .agg A] w (Turns p F R (overA r) (applyM m r.e).1 (.tuple #[.bool (applyM m r.e).2.1, .int .i64 (applyM m r.e).2.2]) w) := by
  obtain ⟨B, rs, hR, h1, h2⟩ := h.real
  refine (mApplyI hR r A hA hE (fun k hk hc => hF k hk ?_) hl hTb hdn).mono ?_
  · rcases hc with rfl | ⟨i, e⟩
    · exact h.own
    · exact h1 i k e
  · rintro e w' ⟨rfl, B', rs', s⟩
    exact turns_of h h1 h2 s

theorem mAliveC (p : Nat) (F R : Nat → Prop) (m : MapN) (w : World) (h : MapAt w p F R m) : Calls Tryz.prog 42 #[.pointer (some ⟨p, 0, none⟩)] w (GivesEs (aliveM m) w) := (mAliveA h.arg).mono fun _ _ h => (GivesN.er (R := R) h).es

theorem mLenC (p : Nat) (F R : Nat → Prop) (m : MapN) (w : World) (h : MapAt w p F R m) : Calls Tryz.prog 38 #[.pointer (some ⟨p, 0, none⟩)] w fun en w' => en = .returned (.int .i64 (m.kept.length : Int)) ∧ Below w.heap.size w w' := mLenA h.arg

theorem mRoomC (p : Nat) (F R : Nat → Prop) (m : MapN) (x : Int) (w : World) (h : MapAt w p F R m) (hx : 0 ≤ x ∧ x ≤ 1000000) : Calls Tryz.prog 37 #[.pointer (some ⟨p, 0, none⟩), .int .i64 x] w fun en w' => en = .returned (.bool (decide ((m.kept.length : Int) + x ≤ 2048))) ∧ Below w.heap.size w w' := by
  obtain ⟨B, rs, hR, -⟩ := h.real
  exact mRoomA x hR hx

theorem mDeadC (p : Nat) (F R : Nat → Prop) (m : MapN) (d : DotN) (w : World) (h : MapAt w p F R m) (hx : FitD d) : Calls Tryz.prog 34 #[.pointer (some ⟨p, 0, none⟩), .agg #[.int .i64 d.dev, .int .i64 d.inc, .int .i64 d.seq]] w fun en w' => en = .returned (.bool (hasD m.dead d)) ∧ Below w.heap.size w w' := mDeadA h.arg d hx

theorem mForgetC (p : Nat) (F R : Nat → Prop) (m : MapN) (d : DotN) (w : World) (h : MapAt w p F R m) (hx : FitD d) : Calls Tryz.prog 17 #[.pointer (some ⟨p, 0, none⟩), .agg #[.int .i64 d.dev, .int .i64 d.inc, .int .i64 d.seq]] w (Turns p F R none (forgetM m d).1 (.bool (forgetM m d).2) w) := by
  obtain ⟨B, rs, hR, h1, h2⟩ := h.real
  refine (mForgetI hR d hx).mono ?_
  rintro e w' ⟨rfl, rs', s⟩
  exact turns_of h h1 h2 s

end Go.Proofs.YtelgaglnmcggkaaGreatDoor

/- Contracts of the laws of layer 21: does the program answer at all? -/
namespace Go.Proofs.YtelgaglnmcggkaaGreatDoor
open Go.RowKit
set_option linter.unusedVariables false
set_option linter.unusedSimpArgs false

def awA : DotN := ⟨0, 1, 1⟩
def awB : DotN := ⟨1, 1, 1⟩
def awE1 : EventN := ⟨awB, ⟨0, 0, 1⟩, 2, ItemL.none, [awA]⟩
def awE2 : EventN := ⟨awA, ⟨0, 0, 0⟩, 1, ⟨[110], [100], [47], [], false, false, false, false, 1099511627776, 0, 0⟩, []⟩
def awM1 : MapN := ⟨[awB], [awE1], [awA]⟩
def awM2 : MapN := ⟨[awA, awB], [awE2, awE1], [awA]⟩
theorem or_ex1 : applyM MapN.none awE1 = (awM1, true, 0) := by kernel_rfl
theorem or_ex2 : applyM awM1 awE2 = (awM2, true, 0) := by kernel_rfl
theorem or_ex3 : aliveM awM2 = [] := by kernel_rfl
theorem or_ex4 : hasD awM2.dead awA = true := by kernel_rfl
theorem or_ex5 : lightE awE1 = true := by kernel_rfl
theorem or_ex6 : lightE awE2 = true := by kernel_rfl

set_option maxHeartbeats 1000000 in
set_option maxRecDepth 100000 in
theorem awake21C (w : World) (hTb : OTb w) : Calls Tryz.prog 12 #[] w fun e w' => e = .returned (.bool true) ∧ Below w.heap.size w w' := by
  have HN := fun v => mNewC v
  have H1 : ∀ (p : Nat) (F R : Nat → Prop) (q : Option Addr) (v : World), MapAt v p F R MapN.none → RowOf encD 3 v q 1 1 [awA] → (∀ k, At q k → ¬ F k) → OTb v → Calls Tryz.prog 15 #[.pointer (some ⟨p, 0, none⟩), .agg #[.int .i64 1, .int .i64 1, .int .i64 1, .int .i64 0, .int .i64 0, .int .i64 1, .int .i64 2, .string ⟨#[]⟩, .string ⟨#[]⟩, .string ⟨#[]⟩, .string ⟨#[]⟩, .bool false, .bool false, .bool false, .bool false, .int .i64 0, .int .i64 0, .int .i64 0, .slice q 1 1]] v (Turns p F R q awM1 (.tuple #[.bool true, .int .i64 0]) v) := fun p F R q v h hr hF ht => by
    have := mApplyC p F R MapN.none ⟨awE1, q, 1⟩ #[.int .i64 1, .int .i64 1, .int .i64 1, .int .i64 0, .int .i64 0, .int .i64 1, .int .i64 2, .string ⟨#[]⟩, .string ⟨#[]⟩, .string ⟨#[]⟩, .string ⟨#[]⟩, .bool false, .bool false, .bool false, .bool false, .int .i64 0, .int .i64 0, .int .i64 0, .slice q 1 1] rfl v h hr hF or_ex5 ht (Nat.zero_le _)
    rw [show overA ⟨awE1, q, 1⟩ = q from rfl] at this
    rw [or_ex1] at this
    exact this
  have H2 : ∀ (p : Nat) (F R : Nat → Prop) (v : World), MapAt v p F R awM1 → OTb v → Calls Tryz.prog 15 #[.pointer (some ⟨p, 0, none⟩), .agg #[.int .i64 0, .int .i64 1, .int .i64 1, .int .i64 0, .int .i64 0, .int .i64 0, .int .i64 1, .string ⟨#[110]⟩, .string ⟨#[100]⟩, .string ⟨#[47]⟩, .string ⟨#[]⟩, .bool false, .bool false, .bool false, .bool false, .int .i64 1099511627776, .int .i64 0, .int .i64 0, .slice none 0 0]] v (Turns p F R none awM2 (.tuple #[.bool true, .int .i64 0]) v) := fun p F R v h ht => by
    have := mApplyC p F R awM1 ⟨awE2, none, 0⟩ #[.int .i64 0, .int .i64 1, .int .i64 1, .int .i64 0, .int .i64 0, .int .i64 0, .int .i64 1, .string ⟨#[110]⟩, .string ⟨#[100]⟩, .string ⟨#[47]⟩, .string ⟨#[]⟩, .bool false, .bool false, .bool false, .bool false, .int .i64 1099511627776, .int .i64 0, .int .i64 0, .slice none 0 0] rfl v h (RowOf.none encD 3 v) (fun k hk => by obtain ⟨x, hx, -⟩ := hk; cases hx) or_ex6 ht (by decide)
    rw [show overA ⟨awE2, none, 0⟩ = none from rfl] at this
    rw [or_ex2] at this
    exact this
  have HA : ∀ (p : Nat) (F R : Nat → Prop) (v : World), MapAt v p F R awM2 → Calls Tryz.prog 42 #[.pointer (some ⟨p, 0, none⟩)] v (GivesEs [] v) := fun p F R v h => by
    have := mAliveC p F R awM2 v h
    rw [or_ex3] at this
    exact this
  have HL : ∀ (p : Nat) (F R : Nat → Prop) (v : World), MapAt v p F R awM2 → Calls Tryz.prog 38 #[.pointer (some ⟨p, 0, none⟩)] v fun en w' => en = .returned (.int .i64 2) ∧ Below v.heap.size v w' := fun p F R v h => mLenC p F R awM2 v h
  have HD : ∀ (p : Nat) (F R : Nat → Prop) (v : World), MapAt v p F R awM2 → Calls Tryz.prog 34 #[.pointer (some ⟨p, 0, none⟩), .agg #[.int .i64 0, .int .i64 1, .int .i64 1]] v fun en w' => en = .returned (.bool true) ∧ Below v.heap.size v w' := fun p F R v h => by
    have := mDeadC p F R awM2 awA v h (by unfold awA; refine ⟨?_, ?_, ?_⟩ <;> (unfold is64; decide))
    rw [or_ex4] at this
    exact this
  unfold Turns at H1 H2
  unfold GivesEs at HA
  go_enter Tryz.func12, Tryz.ntmps12
  go_wp2_with (first
    | (go_at_call 13; (with_reducible refine (HN _).mono ?_); rintro e w1 ⟨p, F, R, rfl, hm1, hF, hx1⟩; have ba := below_alloc w1 (.cells #[.int .i64 0, .int .i64 1, .int .i64 1] 35); have bb := below_alloc (w1.alloc (.cells #[.int .i64 0, .int .i64 1, .int .i64 1] 35)) (.cells #[.int .i64 1, .int .i64 1, .int .i64 1] 35); have bc := below_alloc ((w1.alloc (.cells #[.int .i64 0, .int .i64 1, .int .i64 1] 35)).alloc (.cells #[.int .i64 1, .int .i64 1, .int .i64 1] 35)) (.cells #[.int .i64 0, .int .i64 1, .int .i64 1] 35); have oa := ((ObjAt.new w1 #[.int .i64 0, .int .i64 1, .int .i64 1] 35).below bb (by simp)).below bc (by simp; omega); have hrq := (OwnZ.new encD_len [awA] #[.int .i64 0, .int .i64 1, .int .i64 1] rfl 1 rfl (by unfold maxLen; omega) 35 ((w1.alloc (.cells #[.int .i64 0, .int .i64 1, .int .i64 1] 35)).alloc (.cells #[.int .i64 1, .int .i64 1, .int .i64 1] 35))).row encD_len; have hsz : ((w1.alloc (.cells #[.int .i64 0, .int .i64 1, .int .i64 1] 35)).alloc (.cells #[.int .i64 1, .int .i64 1, .int .i64 1] 35)).heap.size = w1.heap.size + 1 + 1 := (by simp); rw [hsz] at hrq; have hm3 := ((hm1.below ba).below bb).below bc; have hb3 := (hx1.trans (ba.mono hx1.size)).trans ((bb.trans (bc.mono bb.size)).mono (Nat.le_trans hx1.size ba.size)); have hq : ∀ k, At (some ⟨w1.heap.size + 1 + 1, 0, none⟩) k → ¬ F k := fun k hk hf => (by have e : w1.heap.size + 1 + 1 = k := at_some.1 hk; have := hm1.lt k (.inl hf); omega); have hna : ¬ F w1.heap.size := fun hf => Nat.lt_irrefl _ (hm1.lt _ (.inl hf)))
    | (go_at_call 15; (with_reducible refine (H1 _ _ _ _ _ hm3 hrq hq (hTb.below hb3)).mono ?_); rintro e w4 ⟨rfl, F4, R4, hm4, hk4, hn4, -⟩; have oa4 := oa.keeps hk4 hna; have hb4 := hb3.trans (hk4.below hb3.size (fun i _ h => hF i (.inl h))); have hna4 : ¬ F4 w1.heap.size := fun hf => (hn4 _ hf).elim hna (fun h => by have := oa.lt; omega); have u0 := oa4.cell 0 rfl; have u1 := oa4.cell 1 rfl; have u2 := oa4.cell 2 rfl)
    | (go_at_call 15; (with_reducible refine (H2 _ _ _ _ hm4 (hTb.below hb4)).mono ?_); rintro e w5 ⟨rfl, F5, R5, hm5, hk5, hn5, -⟩; have oa5 := oa4.keeps hk5 hna4; have hb5 := hb4.trans (hk5.below hb4.size (fun i _ h => (hn4 i h).elim (fun h => hF i (.inl h)) (fun h => Nat.le_trans hb3.size h))))
    | (go_at_call 42; (with_reducible refine (HA _ _ _ _ hm5).mono ?_); rintro e w6 ⟨a6, n6, c6, rfl, hr6, hx6⟩; have hl6 := hr6.leq; have hm6 := hm5.below hx6; have oa6 := oa5.below hx6 oa5.lt; have hb6 := hb5.trans (hx6.mono hb5.size); obtain rfl : 0 = n6 := hl6)
    | (go_at_call 38; (with_reducible refine (HL _ _ _ _ hm6).mono ?_); rintro e w7 ⟨rfl, hx7⟩; have hm7 := hm6.below hx7; have oa7 := oa6.below hx7 oa6.lt; have hb7 := hb6.trans (hx7.mono hb6.size); have u0 := oa7.cell 0 rfl; have u1 := oa7.cell 1 rfl; have u2 := oa7.cell 2 rfl)
    | (go_at_call 34; (with_reducible refine (HD _ _ _ _ hm7).mono ?_); rintro e w8 ⟨rfl, hx8⟩; have hb8 := hb7.trans (hx8.mono hb7.size)))
  go_ret
  exact ⟨rfl, hb8⟩
end Go.Proofs.YtelgaglnmcggkaaGreatDoor

/- The law OrmapFull. -/
namespace Go.Proofs.YtelgaglnmcggkaaGreatDoor
open Go.RowKit
set_option linter.unusedVariables false
set_option linter.unusedSimpArgs false

/-- A map that holds m behind p; things beside it; a row of one dot. -/
structure StF (w0 : World) (os : List (Nat × List Value)) (g p : Nat) (m : MapN) (v : World) : Prop where
  ex : ∃ F R, MapAt v p F R m ∧ (∀ x ∈ os, ¬ F x.1) ∧ ¬ F g ∧ ∀ k, F k → w0.heap.size ≤ k
  at_ : ∀ x ∈ os, ObjAt v x.1 x.2
  row : RowOf encD 3 v (some ⟨g, 0, none⟩) 1 1 [⟨1, 1, 1⟩]
  lt : g < v.heap.size
  hb : Below w0.heap.size w0 v
theorem StF.obj {w0 : World} {os : List (Nat × List Value)} {g p : Nat} {m : MapN} {v : World} (h : StF w0 os g p m v) {b : Nat} {vs : List Value} (hx : (b, vs) ∈ os) : ObjAt v b vs := h.at_ (b, vs) hx
theorem StF.below {w0 : World} {os : List (Nat × List Value)} {g p : Nat} {m : MapN} {v v' : World} (h : StF w0 os g p m v) (hx : Below v.heap.size v v') : StF w0 os g p m v' := by
  obtain ⟨F, R, h1, h2, h3, h8⟩ := h.ex
  exact ⟨⟨F, R, h1.below hx, h2, h3, h8⟩, fun x hm => (h.at_ x hm).below hx (h.at_ x hm).lt, h.row.below hx, Nat.lt_of_lt_of_le h.lt hx.size, h.hb.trans (hx.mono h.hb.size)⟩
theorem StF.box {w0 : World} {os : List (Nat × List Value)} {g p : Nat} {m : MapN} {v : World} (A : Array Value) (t : TypeId) (h : StF w0 os g p m v) : StF w0 ((v.heap.size, A.toList) :: os) g p m (v.alloc (.cells A t)) := by
  have h' := h.below (below_alloc v (.cells A t))
  obtain ⟨F, R, h1, h2, h3, h8⟩ := h.ex
  refine ⟨⟨F, R, h1.below (below_alloc v (.cells A t)), fun x hx => ?_, h3, h8⟩, fun x hx => ?_, h'.row, h'.lt, h'.hb⟩
  · rcases List.mem_cons.1 hx with rfl | hx
    · exact fun hF => Nat.lt_irrefl _ (h1.lt _ (.inl hF))
    · exact h2 x hx
  · rcases List.mem_cons.1 hx with rfl | hx
    · exact ObjAt.new v A t
    · exact h'.at_ x hx
theorem StF.turn {w0 : World} {os : List (Nat × List Value)} {g p : Nat} {m m' : MapN} {v v' : World} {F F' R' : Nat → Prop} (h : StF w0 os g p m v) (h2 : ∀ x ∈ os, ¬ F x.1) (h3 : ¬ F g) (h8 : ∀ k, F k → w0.heap.size ≤ k) (hv : MapAt v' p F' R' m') (hk : Keeps F v v') (hn : ∀ k, F' k → F k ∨ v.heap.size ≤ k) : StF w0 os g p m' v' := by
  have hlt := h.lt
  refine ⟨⟨F', R', hv, fun x hx hF => (hn _ hF).elim (h2 x hx) (fun c => by have := (h.at_ x hx).lt; omega), fun hF => (hn _ hF).elim h3 (fun c => by omega), fun k hk9 => (hn k hk9).elim (h8 k) (fun c => Nat.le_trans h.hb.size c)⟩, fun x hx => (h.at_ x hx).keeps hk (h2 x hx), h.row.keeps hk (fun k hk hF => by have e : g = k := at_some.1 hk; exact h3 (e ▸ hF)), Nat.lt_of_lt_of_le hlt hk.size, h.hb.trans (hk.below h.hb.size fun i _ h9 => h8 i h9)⟩
theorem belowTo {w v v' : World} (h : Below w.heap.size w v) (hx : Below v.heap.size v v') : Below w.heap.size w v' := h.trans (hx.mono h.size)
theorem full_dead (n : Nat) : (fullM n).dead.length ≤ 900000 := by
  unfold fullM
  dsimp only
  split <;> simp
theorem stFApply {w0 : World} {os : List (Nat × List Value)} {g p : Nat} {m : MapN} {v : World} (h : StF w0 os g p m v) (i : Int) (hTb : OTb w0) (hdn : m.dead.length ≤ 900000) :
    Calls Tryz.prog 15 #[.pointer (some ⟨p, 0, none⟩), .agg #[.int .i64 0, .int .i64 1, .int .i64 (i), .int .i64 0, .int .i64 0, .int .i64 0, .int .i64 2, .string ⟨#[]⟩, .string ⟨#[]⟩, .string ⟨#[]⟩, .string ⟨#[]⟩, .bool false, .bool false, .bool false, .bool false, .int .i64 0, .int .i64 0, .int .i64 0, .slice (some ⟨g, 0, none⟩) 1 1]] v fun en w' => en = .returned (.tuple #[.bool (applyM m (evF i)).2.1, .int .i64 (applyM m (evF i)).2.2]) ∧ StF w0 os g p (applyM m (evF i)).1 w' := by
  obtain ⟨F, R, h1, h2, h3, h8⟩ := h.ex
  refine (mApplyC p F R m ⟨evF i, some ⟨g, 0, none⟩, 1⟩ #[.int .i64 0, .int .i64 1, .int .i64 (i), .int .i64 0, .int .i64 0, .int .i64 0, .int .i64 2, .string ⟨#[]⟩, .string ⟨#[]⟩, .string ⟨#[]⟩, .string ⟨#[]⟩, .bool false, .bool false, .bool false, .bool false, .int .i64 0, .int .i64 0, .int .i64 0, .slice (some ⟨g, 0, none⟩) 1 1] rfl v h1 h.row (fun k hk hF => by have e : g = k := at_some.1 hk; exact h3 (e ▸ hF)) (light_evF i) (hTb.below h.hb) hdn).mono ?_
  rintro en w' ⟨rfl, F', R', hv, hk, hn, -⟩
  exact ⟨rfl, h.turn h2 h3 h8 hv hk hn⟩
theorem stFForget {w0 : World} {os : List (Nat × List Value)} {g p : Nat} {m : MapN} {v : World} (h : StF w0 os g p m v) (i : Int) (hx : FitD ⟨0, 1, i⟩) :
    Calls Tryz.prog 17 #[.pointer (some ⟨p, 0, none⟩), .agg #[.int .i64 0, .int .i64 1, .int .i64 i]] v fun en w' => en = .returned (.bool (forgetM m ⟨0, 1, i⟩).2) ∧ StF w0 os g p (forgetM m ⟨0, 1, i⟩).1 w' := by
  obtain ⟨F, R, h1, h2, h3, h8⟩ := h.ex
  refine (mForgetC p F R m ⟨0, 1, i⟩ v h1 hx).mono ?_
  rintro en w' ⟨rfl, F', R', hv, hk, hn, -⟩
  exact ⟨rfl, h.turn h2 h3 h8 hv hk hn⟩
theorem stFRoom {w0 : World} {os : List (Nat × List Value)} {g p : Nat} {m : MapN} {v : World} (h : StF w0 os g p m v) :
    Calls Tryz.prog 37 #[.pointer (some ⟨p, 0, none⟩), .int .i64 1] v fun en w' => en = .returned (.bool (decide ((m.kept.length : Int) + 1 ≤ 2048))) ∧ Below v.heap.size v w' := by
  obtain ⟨F, R, h1, h2, h3, h8⟩ := h.ex
  exact mRoomC p F R m 1 v h1 (by omega)
theorem stFLen {w0 : World} {os : List (Nat × List Value)} {g p : Nat} {m : MapN} {v : World} (h : StF w0 os g p m v) :
    Calls Tryz.prog 38 #[.pointer (some ⟨p, 0, none⟩)] v fun en w' => en = .returned (.int .i64 (m.kept.length : Int)) ∧ Below v.heap.size v w' := by
  obtain ⟨F, R, h1, h2, h3, h8⟩ := h.ex
  exact mLenC p F R m v h1

set_option maxHeartbeats 4000000 in
set_option maxRecDepth 100000 in
theorem fullW (more : Int) (hm : 0 ≤ more ∧ more ≤ 255) (w : World) (hTb : OTb w) :
    Calls Tryz.prog 7 #[.int .u8 more] w fun en w' => en = .returned (.bool true) ∧ Below w.heap.size w w' := by
  have HN := fun v => mNewC v
  have HAW := fun v (hv : Below w.heap.size w v) => awake21C v (hTb.below hv)
  have q1 : IntKind.i64.wrap more = more := by rw [IntKind.wrap_i64]; omega
  have q2 : IntKind.i64.wrap (1 + more) = 1 + more := by rw [IntKind.wrap_i64]; omega
  have q3 : wrap64 more = more := by unfold wrap64; omega
  have q4 : wrap64 (1 + more) = 1 + more := by unfold wrap64; omega
  go_enter Tryz.func7, Tryz.ntmps7
  go_wp2_with (go_at_call 13; (with_reducible refine (HN _).mono ?_); rintro e w1 ⟨p, F, R, rfl, hm1, hF1, hx1⟩; have ba := below_alloc w1 (.cells #[.int .i64 0, .int .i64 1] 33); have bb := below_alloc (w1.alloc (.cells #[.int .i64 0, .int .i64 1] 33)) (.cells #[.int .i64 1, .int .i64 1, .int .i64 1] 35); have oa := (ObjAt.new w1 #[.int .i64 0, .int .i64 1] 33).below bb (by simp); have hrq := (OwnZ.new encD_len [⟨1, 1, 1⟩] #[.int .i64 1, .int .i64 1, .int .i64 1] rfl 1 rfl (by unfold maxLen; omega) 35 (w1.alloc (.cells #[.int .i64 0, .int .i64 1] 33))).row encD_len; have hsz : (w1.alloc (.cells #[.int .i64 0, .int .i64 1] 33)).heap.size = w1.heap.size + 1 := (by simp); rw [hsz] at hrq; have hS0 : StF w [(w1.heap.size, [.int .i64 0, .int .i64 1])] (w1.heap.size + 1) p (fullM 0) ((w1.alloc (.cells #[.int .i64 0, .int .i64 1] 33)).alloc (.cells #[.int .i64 1, .int .i64 1, .int .i64 1] 35)) := ⟨⟨F, R, (hm1.below ba).below bb, fun x hx hF => (by cases List.mem_singleton.1 hx; exact Nat.lt_irrefl _ (hm1.lt _ (.inl hF))), fun hF => (by have := hm1.lt _ (.inl hF); omega), fun k hk => hF1 k (.inl hk)⟩, fun x hx => (by cases List.mem_singleton.1 hx; exact oa), hrq, (by simp), belowTo (belowTo hx1 ba) bb⟩)
  clear hm1 hF1 hx1 ba bb oa hrq hsz HN
  go_loopw [6] (fun i wr => ∃ j : Nat, j ≤ 2048 ∧ i = .int .i64 ((j : Int) + 1) ∧ StF w [(w1.heap.size, [.int .i64 0, .int .i64 1])] (w1.heap.size + 1) p (fullM j) wr) (fun i _ => (2049 - intOf i).toNat)
  case atStart => exact ⟨0, Nat.zero_le _, rfl, hS0⟩
  case round =>
    clear hS0
    obtain ⟨j, hj, rfl, hS⟩ := hrel
    have ob := hS.obj (b := w1.heap.size) (vs := [.int .i64 0, .int .i64 1]) (by simp); have u0 := ob.cell 0 rfl; have u1 := ob.cell 1 rfl
    by_cases hlt : j < 2048
    · have g1 : (j : Int) + 1 ≤ 2048 := by omega
      have HA := stFApply hS ((j : Int) + 1) hTb (full_dead j)
      rw [full_step hlt] at HA
      go_wp2_with (go_at_call 15; (with_reducible refine HA.mono ?_); rintro e w4 ⟨rfl, hS4⟩)
      go_roundw
      case rel => exact ⟨j + 1, by omega, by go_num, hS4⟩
      case measure => simp [intOf]; omega
    · have hj8 : j = 2048 := by omega
      have g1 : ¬ (j : Int) + 1 ≤ 2048 := by omega
      have g2 : decide ((j : Int) + 1 ≤ 2048) = false := decide_eq_false g1
      obtain ⟨wo, hwo⟩ : ∃ wo, wo = wr := ⟨wr, rfl⟩
      subst hwo
      have hS2 := StF.box #[.int .i64 0, .int .i64 1, .int .i64 (2049), .int .i64 0, .int .i64 0, .int .i64 0, .int .i64 2, .string ⟨#[]⟩, .string ⟨#[]⟩, .string ⟨#[]⟩, .string ⟨#[]⟩, .bool false, .bool false, .bool false, .bool false, .int .i64 0, .int .i64 0, .int .i64 0, .slice (some ⟨w1.heap.size + 1, 0, none⟩) 1 1] 43 hS
      have HA1 := stFApply hS2 2049 hTb (full_dead j)
      rw [full_no hj8] at HA1
      have HA2 := fun v (h : StF w ((wo.heap.size, (#[.int .i64 0, .int .i64 1, .int .i64 (2049), .int .i64 0, .int .i64 0, .int .i64 0, .int .i64 2, .string ⟨#[]⟩, .string ⟨#[]⟩, .string ⟨#[]⟩, .string ⟨#[]⟩, .bool false, .bool false, .bool false, .bool false, .int .i64 0, .int .i64 0, .int .i64 0, .slice (some ⟨w1.heap.size + 1, 0, none⟩) 1 1] : Array Value).toList) :: [(w1.heap.size, [.int .i64 0, .int .i64 1])]) (w1.heap.size + 1) p (fullM j) v) => stFApply h (1 + more) hTb (full_dead j)
      rw [full_old hj8 (by omega) (by omega)] at HA2
      obtain ⟨M, hf1, hf2, hf3⟩ := full_forget hj8 (i := 1 + more) (by omega) (by omega)
      have HF := fun v (h : StF w ((wo.heap.size, (#[.int .i64 0, .int .i64 1, .int .i64 (2049), .int .i64 0, .int .i64 0, .int .i64 0, .int .i64 2, .string ⟨#[]⟩, .string ⟨#[]⟩, .string ⟨#[]⟩, .string ⟨#[]⟩, .bool false, .bool false, .bool false, .bool false, .int .i64 0, .int .i64 0, .int .i64 0, .slice (some ⟨w1.heap.size + 1, 0, none⟩) 1 1] : Array Value).toList) :: [(w1.heap.size, [.int .i64 0, .int .i64 1])]) (w1.heap.size + 1) p (fullM j) v) => stFForget h (1 + more) (by refine ⟨?_, ?_, ?_⟩ <;> (unfold is64; dsimp only; omega))
      rw [hf1] at HF
      have hMd : M.dead.length ≤ 900000 := by
        have := (forget_in (m := fullM j) ⟨0, 1, 1 + more⟩).2.2
        rw [hf1] at this
        rw [this]
        exact full_dead j
      obtain ⟨h9, h10⟩ := full_again hj8 hf2 hf3
      have HA3 := fun v (h : StF w ((wo.heap.size, (#[.int .i64 0, .int .i64 1, .int .i64 (2049), .int .i64 0, .int .i64 0, .int .i64 0, .int .i64 2, .string ⟨#[]⟩, .string ⟨#[]⟩, .string ⟨#[]⟩, .string ⟨#[]⟩, .bool false, .bool false, .bool false, .bool false, .int .i64 0, .int .i64 0, .int .i64 0, .slice (some ⟨w1.heap.size + 1, 0, none⟩) 1 1] : Array Value).toList) :: [(w1.heap.size, [.int .i64 0, .int .i64 1])]) (w1.heap.size + 1) p M v) => stFApply h 2049 hTb hMd
      rw [h9] at HA3
      have HR := fun v (h : StF w ((wo.heap.size, (#[.int .i64 0, .int .i64 1, .int .i64 (2049), .int .i64 0, .int .i64 0, .int .i64 0, .int .i64 2, .string ⟨#[]⟩, .string ⟨#[]⟩, .string ⟨#[]⟩, .string ⟨#[]⟩, .bool false, .bool false, .bool false, .bool false, .int .i64 0, .int .i64 0, .int .i64 0, .slice (some ⟨w1.heap.size + 1, 0, none⟩) 1 1] : Array Value).toList) :: [(w1.heap.size, [.int .i64 0, .int .i64 1])]) (w1.heap.size + 1) p (fullM j) v) => stFRoom h
      rw [full_len, decide_eq_false (by omega)] at HR
      clear hf1 h9
      generalize (applyM M (evF 2049)).1 = M2 at *
      have HL := fun v (h : StF w ((wo.heap.size, (#[.int .i64 0, .int .i64 1, .int .i64 (2049), .int .i64 0, .int .i64 0, .int .i64 0, .int .i64 2, .string ⟨#[]⟩, .string ⟨#[]⟩, .string ⟨#[]⟩, .string ⟨#[]⟩, .bool false, .bool false, .bool false, .bool false, .int .i64 0, .int .i64 0, .int .i64 0, .slice (some ⟨w1.heap.size + 1, 0, none⟩) 1 1] : Array Value).toList) :: [(w1.heap.size, [.int .i64 0, .int .i64 1])]) (w1.heap.size + 1) p M2 v) => stFLen h
      rw [h10] at HL
      generalize fullM j = M0 at *
      clear hlt hj hj8 hS
      go_wp2_with (first
        | (refine wpList_storeAll rfl 43 _ _ rfl #[.int .i64 0, .int .i64 0, .int .i64 0, .int .i64 0, .int .i64 0, .int .i64 0, .int .i64 0, .string ⟨#[]⟩, .string ⟨#[]⟩, .string ⟨#[]⟩, .string ⟨#[]⟩, .bool false, .bool false, .bool false, .bool false, .int .i64 0, .int .i64 0, .int .i64 0, .slice none 0 0] #[.int .i64 0, .int .i64 1, .int .i64 (2049), .int .i64 0, .int .i64 0, .int .i64 0, .int .i64 2, .string ⟨#[]⟩, .string ⟨#[]⟩, .string ⟨#[]⟩, .string ⟨#[]⟩, .bool false, .bool false, .bool false, .bool false, .int .i64 0, .int .i64 0, .int .i64 0, .slice (some ⟨w1.heap.size + 1, 0, none⟩) 1 1] 19 rfl rfl (by kernel_rfl) rfl rfl (by rw [← Array.all_toList]; rfl) ?_; have ob := hS2.obj (b := w1.heap.size) (vs := [.int .i64 0, .int .i64 1]) (by simp); have u0 := ob.cell 0 rfl; have u1 := ob.cell 1 rfl)
        | (refine wpList_loadAll rfl 43 _ rfl wo.heap.size 19 #[.int .i64 0, .int .i64 1, .int .i64 (2049), .int .i64 0, .int .i64 0, .int .i64 0, .int .i64 2, .string ⟨#[]⟩, .string ⟨#[]⟩, .string ⟨#[]⟩, .string ⟨#[]⟩, .bool false, .bool false, .bool false, .bool false, .int .i64 0, .int .i64 0, .int .i64 0, .slice (some ⟨w1.heap.size + 1, 0, none⟩) 1 1] rfl (hS6.obj List.mem_cons_self) Tryz.isAgg43 Tryz.sizeOf43 rfl ?_)
        | (refine wpList_loadAll rfl 43 _ rfl wo.heap.size 19 #[.int .i64 0, .int .i64 1, .int .i64 (2049), .int .i64 0, .int .i64 0, .int .i64 0, .int .i64 2, .string ⟨#[]⟩, .string ⟨#[]⟩, .string ⟨#[]⟩, .string ⟨#[]⟩, .bool false, .bool false, .bool false, .bool false, .int .i64 0, .int .i64 0, .int .i64 0, .slice (some ⟨w1.heap.size + 1, 0, none⟩) 1 1] rfl (hS2.obj List.mem_cons_self) Tryz.isAgg43 Tryz.sizeOf43 rfl ?_)
        | (go_at_call 15; (with_reducible refine (HA3 _ hS6).mono ?_); rintro e w7 ⟨rfl, hS7⟩)
        | (go_at_call 15; (with_reducible refine (HA2 _ hS3).mono ?_); rintro e w4 ⟨rfl, hS4⟩)
        | (go_at_call 15; (with_reducible refine HA1.mono ?_); rintro e w3 ⟨rfl, hS3⟩; have ob := hS3.obj (b := w1.heap.size) (vs := [.int .i64 0, .int .i64 1]) (by simp); have u0 := ob.cell 0 rfl; have u1 := ob.cell 1 rfl)
        | (go_at_call 37; (with_reducible refine (HR _ hS4).mono ?_); rintro e w5 ⟨rfl, hx5⟩; have hS5 := hS4.below hx5; have ob := hS5.obj (b := w1.heap.size) (vs := [.int .i64 0, .int .i64 1]) (by simp); have u0 := ob.cell 0 rfl; have u1 := ob.cell 1 rfl)
        | (go_at_call 17; (with_reducible refine (HF _ hS5).mono ?_); rintro e w6 ⟨rfl, hS6⟩)
        | (go_at_call 38; (with_reducible refine (HL _ hS7).mono ?_); rintro e w8 ⟨rfl, hx8⟩)
        | (go_at_call 12; (with_reducible refine (HAW _ (belowTo hS7.hb hx8)).mono ?_); rintro e w9 ⟨rfl, hx9⟩))
      go_ret
      exact ⟨rfl, belowTo (belowTo hS7.hb hx8) hx9⟩
end Go.Proofs.YtelgaglnmcggkaaGreatDoor

/- The law OrmapFull over any arguments. -/
namespace Go.Proofs.YtelgaglnmcggkaaGreatDoor
open Go.RowKit
set_option linter.unusedVariables false
set_option linter.unusedSimpArgs false

theorem ormapFull_walk (t : Int) (w : World) (hw : (Lit.int .u8 t).wf = true) (hTb : OTb w) :
    Calls Tryz.prog 7 #[.int .u8 t] w fun en w' => en = .returned (.bool true) ∧ Below w.heap.size w w' :=
  fullW t (wfU8 hw) w hTb
end Go.Proofs.YtelgaglnmcggkaaGreatDoor
