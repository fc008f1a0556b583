/- Contracts and plain words that the laws' proofs stand on. -/
import Derived.Test.YtaodjnkjjmhecaaGreatDoorLibBG
namespace Go.Proofs.YtaodjnkjjmhecaaGreatDoor
open Go.RowKit
set_option linter.unusedVariables false
theorem ahead_irrefl (x : DotN) : aheadD x x = false := by rw [aheadD_no]; omega
theorem OrdV.nodup {l : List DotN} (h : OrdV l) : l.Nodup := List.Pairwise.imp (fun {x y} hxy e => by subst e; rw [ahead_irrefl] at hxy; cases hxy) h
theorem MetV.perm {l R : List DotN} {left : Lit → Bool} (h : MetV l left R) (hl : OkV l) (h0 : ∀ kl, left kl = false) : R.Perm l := (List.perm_ext_iff_of_nodup h.nodup hl.ord.nodup).2 (h.all h0)
end Go.Proofs.YtaodjnkjjmhecaaGreatDoor
namespace Go.Proofs.YtaodjnkjjmhecaaGreatDoor
open Go.RowKit Go.Sort
set_option linter.unusedVariables false
def ordM (x y : DotN) : Int := cmpAG x.dev x.inc y.dev y.inc
set_option maxRecDepth 100000 in
theorem markOrderG (x y : DotN) (w : World) :
    Calls Tryz.prog 126 #[.agg #[.int .i64 x.dev, .int .i64 x.inc, .int .i64 x.seq], .agg #[.int .i64 y.dev, .int .i64 y.inc, .int .i64 y.seq]] w fun en w' => en = .returned (.int .i64 (ordM x y)) ∧ Grows w w' := by
  obtain ⟨o1, o2, hb⟩ := two_objs w #[.int .i64 x.dev, .int .i64 x.inc, .int .i64 x.seq] #[.int .i64 y.dev, .int .i64 y.inc, .int .i64 y.seq] 149 149
  have u0 := o1.cell 0 rfl; have u1 := o1.cell 1 rfl; have u2 := o1.cell 2 rfl
  have v0 := o2.cell 0 rfl; have v1 := o2.cell 1 rfl; have v2 := o2.cell 2 rfl
  have hg : Grows w ((w.alloc (.cells #[.int .i64 x.dev, .int .i64 x.inc, .int .i64 x.seq] 149)).alloc (.cells #[.int .i64 y.dev, .int .i64 y.inc, .int .i64 y.seq] 149)) := (Grows.alloc w _).trans (Grows.alloc _ _)
  clear o1 o2 hb
  have H1 := fun w => dotCompareG x.dev x.inc y.dev y.inc w
  unfold ordM
  generalize cmpAG x.dev x.inc y.dev y.inc = C1 at *
  go_enter Tryz.func126, Tryz.ntmps126
  go_wp2_with (go_at_call 127; (with_reducible refine (H1 _).mono ?_); rintro e w1 ⟨rfl, hx⟩; have hg := hg.trans hx)
  go_ret
  exact ⟨rfl, hg⟩
theorem ordM_less (x y : DotN) : ltOf ordM x y = aheadD x y := by
  show decide (ordM x y < 0) = _
  unfold ordM cmpAG cmpN
  rw [Bool.eq_iff_iff, decide_eq_true_iff, aheadD_iff]
  repeat' split
  all_goals first | omega | (constructor <;> intros <;> first | omega | contradiction)
theorem swoM : SWO (ltOf ordM) where
  irrefl x := by rw [ordM_less, ahead_irrefl]
  trans x y z h1 h2 := by rw [ordM_less, aheadD_iff] at *; omega
  ntrans x y z h1 h2 := by rw [ordM_less, aheadD_no] at *; omega
theorem marks_sorted {l d : List DotN} (hl : OkV l) (hp : d.Perm l) (hs : d.Pairwise fun x y => aheadD y x = false) : d = l := by
  have hnd : d.Nodup := hp.nodup_iff.2 hl.ord.nodup
  have ho : OrdV d := List.Pairwise.imp_of_mem (fun {a b} ha hb h => by
    obtain ⟨h1, h2⟩ := h
    rw [aheadD_no] at h1
    rw [aheadD_iff]
    by_cases e : a.dev = b.dev ∧ a.inc = b.inc
    · have g1 := getV_mem hl.ord (hp.mem_iff.1 ha)
      have g2 := getV_mem hl.ord (hp.mem_iff.1 hb)
      rw [e.1, e.2, g2] at g1
      exact absurd (DotN.ext' e.1 e.2 g1.symm) h2
    · omega) (List.Pairwise.and hs hnd)
  exact sorted_unique ho.sorted hl.ord.sorted fun x => hp.mem_iff
set_option maxHeartbeats 2000000 in
set_option maxRecDepth 100000 in
theorem vMarksA {v : Value} {mv : Option Nat} {G : Nat → Prop} {m : List DotN} (w : World) (h2 : ArgV w v mv G m) :
    Calls Tryz.prog 87 #[v] w (GivesZ encD 3 149 m m.length w) := by
  have HA := vAllC h2
  have hmo := h2.ok
  obtain ⟨i0, hi, hz0, hz1, hz2⟩ := info_parts infoMark
  have hcon0 := fun v => AnyF.slices_SortFunc_none Tryz.sortMark none 0 (.func (.func 126) #[] #[]) v
  change ∀ v, Calls Tryz.prog 125 _ v _ at hcon0
  rcases h2.nums with ⟨rfl, rfl⟩ | ⟨B, n, D, rfl, hB, hm, hD⟩
  · have hb := below_alloc w (.mapIter none 0 #[] 0)
    have hrg := run_range_nilMap (P := Tryz.prog) w 99 33 3 Tryz.underlying99
    have hnx : ∀ ty, (Instr.next (.pointer (some ⟨w.heap.size, 0, none⟩)) false ty).run Tryz.prog (w.alloc (.mapIter none 0 #[] 0)) = _ := fun ty => run_next_nilMap _ ty 0 0 #[]
    clear h2
    go_enter Tryz.func87, Tryz.ntmps87
    go_wp2_with (go_at_call 113; (with_reducible refine HA.mono ?_); rintro e wA ⟨rfl, rfl⟩)
    refine wp_loop_rounds 1 ?_
    rw [rounds_succ]
    go_wp2_with (go_at_call 125; refine (hcon0 _).mono ?_; rintro e w2 ⟨rfl, rfl⟩)
    go_ret
    exact ⟨none, 0, rfl, OwnZ.none _ _ _ _ _, hb⟩
  · have hBl := hm.lt
    have hszD := hD.size
    have hmost := hmo.most
    go_enter Tryz.func87, Tryz.ntmps87
    go_wp2_with (first
      | (go_at_call 113; (with_reducible refine HA.mono ?_); rintro e wA ⟨rfl, rfl⟩)
      | (at_range; refine wpList_range_own _ rfl _ 99 rfl 33 3 keyedActor Tryz.underlying99 _ B n _ rfl hm ?_; intro w0 hrg0 hg0 hs0))
    go_frame
    go_loopw [3] (fun s ww => ∃ (left : Lit → Bool) (cnt : Nat) (R : List DotN) (q : Option Addr) (k c2 : Nat), s = .slice q k c2 ∧ ww.ranges Tryz.prog 33 (plainElem Tryz.prog 3) B w.heap.size n D left cnt ∧ MetV m left R ∧ OwnZ encD 3 (w.heap.size + 1) 149 q k c2 R ww ∧ k + cnt ≤ 67108864 ∧ Below w.heap.size w ww)
      (fun _ ww => ww.rangeLeft B w.heap.size)
    case atStart => exact ⟨_, _, [], none, 0, 0, rfl, hrg0, MetV.start hD hmo, OwnZ.none _ _ _ _ _, by omega, (Keeps.ofGrownBy hg0).below (Nat.le_refl _) (fun k _ e => by cases e)⟩
    case round =>
      obtain ⟨left, cnt, R, q, k, c2, rfl, hrg, hmet, hz, hcnt, hb⟩ := hrel
      clear hrg0 hg0 hs0 HA h2 hszD hmost
      have hRl : R.length = k := hz.2.1
      have hcm := hz.2.2
      unfold maxLen at hcm
      go_wp2_with (first
        | (at_next; refine wpList_next_actors rfl rfl _ rfl B w.heap.size n D _ _ rfl hrg ?_ ?_))
      · intro hc0 hl0
        have hperm := hmet.perm hmo hl0
        have hml : m.length = k := by rw [← hperm.length_eq]; exact hRl
        rcases hz.head with ⟨rfl, rfl, rfl⟩ | ⟨g, rfl, hg1, hg2⟩
        · have hnil : m = [] := List.eq_nil_of_length_eq_zero hml
          go_wp2_with (go_at_call 125; refine (hcon0 _).mono ?_; rintro e w2 ⟨rfl, rfl⟩)
          go_ret
          rw [hnil]
          exact ⟨none, 0, rfl, OwnZ.none _ _ _ _ _, hb⟩
        · have eg : ∀ args w, (callFunc 126 args).run Tryz.prog w = .ok (.enter 126 args) w := enters_of Tryz.func126 (by kernel_rfl) rfl
          have hcmp : Go.Proofs.CmpLays Tryz.prog 126 #[] encD 3 ordM g 0 R.toArray.size wr := fun _ _ _ _ x y => markOrderG x y _
          have hcon := AnyQ.slices_SortFunc Tryz.sortMark 3 Tryz.isAgg149 Tryz.sizeOf149 encD encD_len encD_one ordM swoM 126 #[] g 0 c2 R.toArray wr eg hcmp (own_holds encD_len hz) hg2 (by simp [hRl]; omega)
          have hsz : R.toArray.size = k := by simp [hRl]
          rw [hsz] at hcon
          change Calls Tryz.prog 125 _ wr _ at hcon
          have HZ := Lib.hid hz
          have HP := Lib.hid hperm
          have HM := Lib.hid hml
          clear hcmp hmet hz eg hrg hcon0 hperm hml hcm hcnt
          go_wp2_with (go_at_call 125; refine hcon.mono ?_; rintro e w2 ⟨rfl, d', nn, os, hp, hso, rfl⟩)
          go_ret
          rw [← hsz] at hp
          obtain ⟨p1, p2⟩ := permIn_all hp
          rw [hsz] at p1
          have hlist : d'.toList = m := marks_sorted hmo (p2.trans (by simpa using HP.out)) (by
            have := sortedIn_all p1 hso
            simpa only [ordM_less] using this)
          have hown := own_sorted encD_len HZ.out d'.toList (by simpa using p1) nn os
          rw [Array.toArray_toList] at hown
          refine ⟨some ⟨g, 0, none⟩, c2, by rw [HM.out]; rfl, ?_, hb.trans ((keeps_sortedK d').below hb.size (fun i _ h => by subst h; omega))⟩
          have hown := hown.base (Nat.le_succ _)
          rw [HM.out]
          rw [hlist] at hown
          exact hown
      · intro d i c w1 cnt1 hfd hfi hlk hat hrg1 hlt1 hg1 hs1 hen
        obtain ⟨hmem, hmet1⟩ := hmet.step hD hmo hfd hfi hlk hat
        have k1 := Keeps.ofGrownBy hg1
        have hz1' := hz.keeps k1 (fun j hj e => by have := (hz.lt' j hj).1; have := Option.some.inj e; omega)
        have oa := ObjAt.new w1 #[.int .i64 d, .int .i64 i] 33
        have ba := below_alloc w1 (.cells #[.int .i64 d, .int .i64 i] 33)
        have hrg2 := hrg1.alloc (.cells #[.int .i64 d, .int .i64 i] 33)
        have hz2' := hz1'.below ba (Nat.le_refl _)
        have u0 := oa.cell 0 rfl; have u1 := oa.cell 1 rfl
        have hb1 := hb.trans (grown_below_at hg1 (Nat.le_refl _) hb.size)
        have hb2 := hb1.trans (ba.mono hb1.size)
        have hrl := hrg1.lt
        have hwl : w.heap.size + 1 ≤ (w1.alloc (.cells #[.int .i64 d, .int .i64 i] 33)).heap.size := Nat.le_trans hrl (Nat.le_of_lt oa.lt)
        generalize hw2 : w1.alloc (.cells #[.int .i64 d, .int .i64 i] 33) = w2 at *
        clear hs1 hz hz1' hrg1 hmet hmem hcon0 hfd hfi hlk hat hb hb1
        go_wp2_with (at_builtin; refine wpList_append_row1 encD_len (by decide) encD_one rfl (.tmp 14) (.tmp 18) 27 rfl 149 i0 (.agg #[.int .i64 0, .int .i64 0, .int .i64 0]) 24 Tryz.underlying27 hi hz0 hz1 hz2 rfl hz2' rfl ⟨d, i, c⟩ rfl rfl (k + 1) rfl (by unfold maxLen; omega) (by omega) hwl ?_; intro q3 c3 w3 hz3 hx3 hg3 hn3)
        have k3 := Keeps.ofGrown hx3 hg3
        have hrg3 := k3.ranges (b := B) (r := w.heap.size) (fun h => by have := (hz2'.lt' _ h).1; omega) (fun h => by have := (hz2'.lt' _ h).1; omega) hrg2
        go_roundw
        case rel => exact ⟨_, cnt1, _, q3, k + 1, c3, rfl, hrg3, hmet1, hz3, by omega, hb2.trans (hx3.mono (Nat.le_succ _))⟩
        case measure => rw [hrg3.left_eq, hrg.left_eq]; exact hlt1
end Go.Proofs.YtaodjnkjjmhecaaGreatDoor
namespace Go.Proofs.YtaodjnkjjmhecaaGreatDoor
open Go.RowKit
set_option linter.unusedVariables false
set_option maxRecDepth 100000 in
theorem mContextA {w : World} {v : Value} {m : MapN} (h : ArgM w v m) : Calls Tryz.prog 42 #[v] w fun en w' => ∃ a c, en = .returned (.slice a m.ctx.length c) ∧ OwnZ encD 3 w.heap.size 149 a m.ctx.length c m.ctx w' ∧ Below w.heap.size w w' := by
  have HO := mOrNewI h
  go_enter Tryz.func42, Tryz.ntmps42
  go_wp2_with (first
    | (go_at_call 73; (with_reducible refine HO.mono ?_); rintro e w1 ⟨p, B, rs, rfl, hR, hx⟩; have HM := vMarksA w1 hR.vec.arg)
    | (go_at_call 87; (with_reducible refine HM.mono ?_); rintro e w2 ⟨a, c, rfl, hz, hx2⟩))
  go_ret
  exact ⟨a, c, rfl, hz.base hx.size, hx.trans (hx2.mono hx.size)⟩
end Go.Proofs.YtaodjnkjjmhecaaGreatDoor
namespace Go.Proofs.YtaodjnkjjmhecaaGreatDoor
open Go.RowKit Go.Shelf
set_option linter.unusedVariables false
theorem collectE {w : World} {Bm : Nat} {mv : Option Nat} {rs : List EvR} (h : KeptIs w mv rs) (hc : w.cell? ⟨Bm, 0, none⟩ = some (.map mv)) (hs : SortedE (rs.map (·.e))) (hf : ∀ r ∈ rs, FitD r.e.dot) (hn : rs.length ≤ 2048) :
    Calls Tryz.prog 84 #[.func (.func 128) #[] #[.pointer (some ⟨Bm, 0, none⟩)]] w fun e w' => ∃ L k, GivesZ encD 3 35 L k w e w' ∧ k ≤ 2048 ∧ sortD L = (rs.map (·.e)).map (·.dot) ∧ (∀ x ∈ L, FitD x) ∧ ∀ x ∈ L, ∃ r ∈ rs, r.e.dot = x := by
  obtain ⟨D, hM, hD, hT⟩ := h.mapC
  have hhas : ∀ x : DF, Go.Maps.has D (litD x) = true → ∃ r ∈ rs, r.e.dot = x.1 := fun x hx => by
    have h1 := (hD.at_ x.1 x.2).has
    rw [show Go.Maps.has D (keyD x.1) = true from hx] at h1
    cases h2 : lookR rs x.1 with
    | none => rw [h2] at h1; simp at h1
    | some r => exact ⟨r, (lookR_some h2).1, (lookR_some h2).2⟩
  have hrev : ∀ r ∈ rs, ∀ hx : FitD r.e.dot, Go.Maps.has D (litD ⟨r.e.dot, hx⟩) = true := fun r hr hx => by
    have h1 := (hD.at_ r.e.dot hx).has
    rw [lookR_mem hs hr] at h1
    exact h1
  have hlen : ∀ xs : List DF, xs.Nodup → (∀ x ∈ xs, Go.Maps.has D (litD x) = true) → xs.length ≤ 2048 := fun xs h1 h2 => by
    have h3 : (xs.map (·.1)).length ≤ (rs.map fun r => r.e.dot).length := nodup_most1 (List.Pairwise.map _ (fun a b hab c => hab (Subtype.ext c)) h1) fun x hx => by
      obtain ⟨y, hy, rfl⟩ := List.mem_map.1 hx
      obtain ⟨r, hr, hd⟩ := hhas y (h2 y hy)
      exact List.mem_map.2 ⟨r, hr, hd⟩
    rw [List.length_map, List.length_map] at h3
    omega
  refine (collectD 128 #[.pointer (some ⟨Bm, 0, none⟩)] (fun k => k = Bm ∨ mv = some k) _ _ w (fun m hm => keysEachE m Bm mv D w hm hc hM) (enters_of Tryz.func128 (by kernel_rfl) rfl) (fun k hk => ?_) (fun xs hx => ?_)).mono ?_
  · rcases hk with rfl | hk
    · exact cell_lt hc
    · exact (h.blk k hk).lt
  · have := hlen xs hx.1 hx.2
    omega
  · rintro e w' ⟨xs, k, hS, hG⟩
    have hk : k = (xs.map (·.1)).length := by
      obtain ⟨a, c, -, hz, -⟩ := hG
      exact hz.2.1.symm
    have hmem : ∀ x, x ∈ xs.map (·.1) ↔ ∃ r ∈ rs, r.e.dot = x := fun x => by
      rw [List.mem_map]
      constructor
      · rintro ⟨y, hy, rfl⟩
        exact hhas y ((hS.2 y).1 hy)
      · rintro ⟨r, hr, rfl⟩
        exact ⟨⟨r.e.dot, hf r hr⟩, (hS.2 _).2 (hrev r hr _), rfl⟩
    refine ⟨_, k, hG, ?_, ?_, fun x hx => ?_, fun x hx => (hmem x).1 hx⟩
    · rw [hk, List.length_map]
      exact hlen xs hS.1 (fun x hx => (hS.2 x).1 hx)
    · refine sorted_unique (sortD_sorted _) (sortedE_dots hs) fun x => ?_
      rw [sortD_mem, hmem, List.map_map, List.mem_map]
      rfl
    · obtain ⟨r, hr, rfl⟩ := (hmem x).1 hx
      exact hf r hr
set_option maxRecDepth 100000 in
set_option maxHeartbeats 2000000 in
theorem mEventsA {w : World} {v : Value} {m : MapN} (h : ArgM w v m) : Calls Tryz.prog 43 #[v] w (GivesN m.kept w) := by
  have HO := mOrNewI h
  have HG : ∀ (ww : World) p B rs, Real ww p B rs m → ∀ a n c L, RowOf encD 3 ww a n c L → (∀ x ∈ L, FitD x) → (∀ x ∈ L, ∃ r ∈ rs, r.e.dot = x) → n ≤ 100000 → sortD L = (rs.map (·.e)).map (·.dot) → Calls Tryz.prog 83 #[.pointer (some ⟨p, 0, none⟩), .slice a n c] ww (GivesN m.kept ww) := fun ww p B rs hR a n c L hL hF hin hn hs => by
    have := gatherI hR a n c L hL hF hin hn
    rw [hs, gather_is hR.sorted (fun e he => he), hR.rs] at this
    exact this
  unfold GivesN at HG ⊢
  go_enter Tryz.func43, Tryz.ntmps43
  go_wp2_with (first
    | (go_at_call 73; (with_reducible refine HO.mono ?_); rintro e w1 ⟨p, B, rs, rfl, hR, hx⟩; have c1 := hR.obj.cell 1 rfl; have HM := keysMakeE (B .kept) w1; have b2 := below_alloc w1 (.cells #[.map (B .kept)] 102); have hR2 := hR.below b2; have oc := (ObjAt.new w1 #[.map (B .kept)] 102).cell 0 rfl; have HC := collectE hR2.kept oc hR2.sorted (fun r hr => hR2.fit (hR2.rs ▸ List.mem_map.2 ⟨r, hr, rfl⟩)) (by have := hR.few; rw [← hR.rs, List.length_map] at this; exact this))
    | (go_at_call 88; (with_reducible refine HM.mono ?_); rintro e w2 ⟨rfl, rfl⟩)
    | (go_at_call 84; (with_reducible refine HC.mono ?_); rintro e w3 ⟨L, k, ⟨a3, c3, rfl, hz3, hx3⟩, hk3, hs3, hf3, hi3⟩; have HG3 := HG w3 p B rs (hR2.below hx3) a3 k c3 L (hz3.row encD_len) hf3 hi3 (by omega) hs3)
    | (go_at_call 83; (with_reducible refine HG3.mono ?_); rintro e w4 ⟨a4, n4, c4, P, rfl, hP, hz4, ho4, hn4, hx4⟩))
  go_ret
  have hb := (hx.trans (b2.mono hx.size)).trans (hx3.mono (Nat.le_trans hx.size b2.size))
  exact ⟨a4, n4, c4, P, rfl, hP, hz4.base hb.size, ho4, fun r hr k hk => Nat.le_trans hb.size (hn4 r hr k hk), hb.trans (hx4.mono hb.size)⟩
end Go.Proofs.YtaodjnkjjmhecaaGreatDoor
