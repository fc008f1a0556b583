/- Contracts and plain words that the laws' proofs stand on. -/
import Derived.Test.YtaodjnkjjmhecaaGreatDoorShort
import Derived.Test.YtaodjnkjjmhecaaGreatDoorLibAF
import Derived.Test.YtaodjnkjjmhecaaGreatDoorLibBK
namespace Go.Proofs.YtaodjnkjjmhecaaGreatDoor
open Go.RowKit
set_option linter.unusedVariables false
set_option linter.unusedSimpArgs false
theorem left_but {left : Lit → Bool} {x y : DotN} (hx : FitD x) (hy : FitD y) : (left (keyD y) && !(keyD y).sameKey (keyD x)) = false ↔ left (keyD y) = false ∨ y = x := by
  by_cases e : y = x
  · subst e
    rw [WideAt.sameKey_self (keyedDot.key (key_dot hy))]
    simp
  · rw [Go.Maps.sameKey_ne fun c => e (keyD_inj hy hx c)]
    simp [e]
theorem right_fitT {s : StampN} (h : rightT s = true) : FitT s := by
  have := rightT_iff.1 h
  refine ⟨?_, ?_, ?_⟩ <;> omega
structure GreatO (rs : List EvR) (E : List DotN) (done : DotN → Prop) (o : Option EvR) : Prop where
  mem : ∀ r, o = some r → r ∈ rs ∧ r.e.dot ∈ E
  most : ∀ z ∈ rs, z.e.dot ∈ E → done z.e.dot → ∃ r, o = some r ∧ (z.e = r.e ∨ ltV z.e r.e = true)
theorem GreatO.more {rs : List EvR} {E : List DotN} {P : DotN → Prop} {o : Option EvR} (h : GreatO rs E P o) {Q : DotN → Prop} (hs : SortedE (rs.map (·.e))) {q : EvR} (hq : q ∈ rs) (hE : q.e.dot ∈ E) (hr : rightE q.e = true) (hQ : ∀ z ∈ rs, Q z.e.dot → P z.e.dot ∨ z.e.dot = q.e.dot) :
    (ltE (topD o) (topT o) q.e.dot q.e.stamp = true → GreatO rs E Q (some q)) ∧ (ltE (topD o) (topT o) q.e.dot q.e.stamp = false → GreatO rs E Q o) := by
  have hone : ∀ z ∈ rs, z.e.dot = q.e.dot → z.e = q.e := fun z hz hd => one_dot hs (List.mem_map.2 ⟨z, hz, rfl⟩) (List.mem_map.2 ⟨q, hq, rfl⟩) hd
  constructor
  · intro hlt
    refine ⟨fun r c => by cases c; exact ⟨hq, hE⟩, fun z hz hzE hd => ⟨q, rfl, ?_⟩⟩
    rcases hQ z hz hd with c | c
    · obtain ⟨r, ho, hr2⟩ := h.most z hz hzE c
      subst ho
      rcases hr2 with c2 | c2
      · refine .inr ?_
        rw [c2]
        exact hlt
      · exact .inr (ltV_trans c2 hlt)
    · exact .inl (hone z hz c)
  · intro hlt
    refine ⟨h.mem, fun z hz hzE hd => ?_⟩
    rcases hQ z hz hd with c | c
    · exact h.most z hz hzE c
    · have hze := hone z hz c
      cases o with
      | none =>
        rw [show ltE (topD none) (topT none) q.e.dot q.e.stamp = ltE ⟨0, 0, 0⟩ ⟨0, 0, 0⟩ q.e.dot q.e.stamp from rfl, zero_ltE hr] at hlt
        cases hlt
      | some r =>
        refine ⟨r, rfl, ?_⟩
        rw [hze]
        rcases ltV_total (a := r.e) (b := q.e) hlt with c2 | c2
        · exact .inl (hone r (h.mem r rfl).1 c2).symm
        · exact .inr c2
theorem GreatO.right {rs : List EvR} {E : List DotN} {P : DotN → Prop} {o : Option EvR} (h : GreatO rs E P o) (hr : ∀ r ∈ rs, rightE r.e = true) : FitT (topT o) := by
  cases o with
  | none => exact right_fitT (by rfl)
  | some r => exact right_fitT (right_stampE (hr r (h.mem r rfl).1))
theorem encO_getD (o : Option EvR) : encE (o.getD ⟨EventN.none, none, 0⟩) = encO o := by cases o <;> rfl
set_option maxRecDepth 100000 in
set_option maxHeartbeats 4000000 in
theorem greatestI {w : World} {p : Nat} {B : Slots} {rs : List EvR} {m : MapN} (h : Real w p B rs m) {mv : Option Nat} {E : List DotN} (hs : SetIs w mv E) (hE : ∀ x ∈ E, ∃ r ∈ rs, r.e.dot = x) : Calls Tryz.prog 81 #[.pointer (some ⟨p, 0, none⟩), .map mv] w fun en w' => ∃ (o : Option EvR) (q : EvR), GreatO rs E (fun _ => True) o ∧ en = .returned (.agg (encE q).toArray) ∧ q.e = (o.map (·.e)).getD EventN.none ∧ RowOf encD 3 w' q.a q.e.over.length q.c q.e.over ∧ (∀ k, At q.a k → w.heap.size ≤ k) ∧ Below w.heap.size w w' := by
  have hright : ∀ r ∈ rs, rightE r.e = true := fun r hr => h.ok.right r.e (h.rs ▸ List.mem_map.2 ⟨r, hr, rfl⟩)
  have hsrt := h.sorted
  have HCL : ∀ (v : World) (o : Option EvR), (∀ r, o = some r → r ∈ rs) → Real v p B rs m → Calls Tryz.prog 116 #[.agg (encO o).toArray] v fun en w' => ∃ (q : EvR) (Q : Array Value), (encE q).toArray = Q ∧ q.e = (o.map (·.e)).getD EventN.none ∧ en = .returned (.agg Q) ∧ RowOf encD 3 w' q.a q.e.over.length q.c q.e.over ∧ (∀ k, At q.a k → v.heap.size ≤ k) ∧ Below v.heap.size v w' := fun v o ho hv => by
    have hc := cloneR (o.getD ⟨EventN.none, none, 0⟩) (encO o).toArray (by rw [encO_getD]) v (by
      cases o with
      | none => exact ⟨rfl, Nat.le_refl _, Nat.zero_le _, fun _ => rfl, fun i x hx => by cases hx⟩
      | some r => exact hv.over r (ho r rfl)) (by
      cases o with
      | none => rfl
      | some r => exact hv.light r.e (hv.rs ▸ List.mem_map.2 ⟨r, ho r rfl, rfl⟩))
    refine hc.mono ?_
    rintro e w' ⟨q, hq, rfl, h1, h2, h3⟩
    refine ⟨q, _, rfl, ?_, rfl, h1, h2, h3⟩
    rw [hq]
    cases o <;> rfl
  obtain ⟨Z, hZ⟩ : ∃ Z, (#[.int .i64 0, .int .i64 0, .int .i64 0, .int .i64 0, .int .i64 0, .int .i64 0, .int .i64 0, .string ⟨#[]⟩, .string ⟨#[]⟩, .string ⟨#[]⟩, .string ⟨#[]⟩, .bool false, .bool false, .bool false, .bool false, .int .i64 0, .int .i64 0, .int .i64 0, .slice none 0 0] : Array Value) = Z := ⟨_, rfl⟩
  have hZl : Z.toList = encO none := by rw [← hZ]; rfl
  have zZ : Z.size = 19 := by rw [← hZ]; rfl
  have zZl : Z.toList.length = 19 := by rw [Array.length_toList]; exact zZ
  obtain ⟨oR0, oW0, hb0⟩ := objsE2 w Z Z 43 43
  obtain ⟨bR, hbR⟩ : ∃ x, w.heap.size = x := ⟨_, rfl⟩
  rw [hbR] at oR0 oW0
  obtain ⟨bW, hbW⟩ : ∃ x, bR + 1 = x := ⟨_, rfl⟩
  rw [hbW] at oW0
  have hpb := h.obj.lt
  have hs1 := hs.keeps (Keeps.new (F := fun _ => False) hb0) (fun _ _ c => c)
  rw [hZl] at oW0
  generalize hw0 : (w.alloc (.cells Z 43)).alloc (.cells Z 43) = v0 at *
  have hg0 : GreatO rs E (fun _ => E = []) none := ⟨(fun r c => by cases c), fun z _ hz he => by rw [he] at hz; cases hz⟩
  go_enter Tryz.func81, Tryz.ntmps81
  rcases hs1 with ⟨rfl, rfl⟩ | ⟨b, n, D, rfl, hm, hD⟩
  · have hrg := run_range_nilMap (P := Tryz.prog) v0 103 35 123 Tryz.underlying103
    have hnx : ∀ ty, (Instr.next (.pointer (some ⟨v0.heap.size, 0, none⟩)) false ty).run Tryz.prog (v0.alloc (.mapIter none 0 #[] 0)) = _ := fun ty => run_next_nilMap _ ty 0 0 #[]
    have bi := below_alloc v0 (.mapIter none 0 #[] 0)
    have hbi := hb0.trans (bi.mono hb0.size)
    go_wp2_with fail
    refine wp_loop_rounds 1 ?_
    rw [rounds_succ]
    generalize hwr : v0.alloc (.mapIter none 0 #[] 0) = wr at *
    obtain ⟨W, hW⟩ : ∃ W, (encO none).toArray = W := ⟨_, rfl⟩
    have zW : W.size = 19 := by rw [← hW]; exact encO_size none
    have hWl : encO none = W.toList := by rw [← hW]
    rw [hWl] at oW0
    have HC := HCL wr none (fun r c => (hg0.mem r c).1) (h.below hbi)
    rw [hW] at HC
    have oWr := oW0.below bi oW0.lt
    have oRr := oR0.below bi oR0.lt
    have hbr := hbi
    go_wp2_with (first
      | (refine wpList_loadAll rfl 43 _ rfl bW 19 W rfl oWr Tryz.isAgg43 Tryz.sizeOf43 zW ?_)
      | (go_at_call 116; (with_reducible refine HC.mono ?_); rintro e w3 ⟨q, Q, hQ, hqe, rfl, hrow, hat, hx⟩; have zQ : Q.size = 19 := (by rw [← hQ]; rfl); have oneQ : Q.all (·.oneCell') = true := (by rw [← hQ]; exact encO_one (some q)); have oR3 := oRr.below hx oRr.lt)
      | (refine wpList_storeOver rfl 43 _ _ rfl bR _ Q 19 rfl rfl oR3 (by kernel_rfl) zZl zQ oneQ ?_))
    have HLV := loadVarBig (P := Tryz.prog) 43 bR 19 Q (oR3.setRow Q) Tryz.isAgg43 Tryz.sizeOf43 zQ
    have KR := (Keeps.refl (fun k => k = bR) w3).setRow rfl Q
    have hb3 := hbr.trans (hx.mono hbr.size)
    refine bodyPost_ret (v := .agg Q) (results_big1 Tryz.results81 rfl HLV) rfl ⟨none, q, ⟨hg0.mem, fun z hz hzE _ => absurd hzE List.not_mem_nil⟩, by rw [hQ], hqe, hrow.keeps KR (fun k hk c => by have := hat k hk; have := oRr.lt; omega), fun k hk => Nat.le_trans hbr.size (hat k hk), below_rowSet hb3 (Nat.le_of_eq hbR) Q⟩
  · have hbl := hm.lt
    have lW0 := oW0.lt
    have lR0 := oR0.lt
    have hbSZ : b < w.heap.size := by
      rcases hs with ⟨c, _⟩ | ⟨b2, n2, D2, c, hm2, _⟩
      · cases c
      · cases c; exact hm2.lt
    go_wp2_with (at_range; refine wpList_range_own _ rfl _ 103 rfl 35 123 keyedDot Tryz.underlying103 _ b n _ rfl hm ?_; intro w0 hrg0 hgr0 hs0)
    try go_frame
    have b0 : Below v0.heap.size v0 w0 := (Keeps.ofGrownBy hgr0).below (Nat.le_refl _) (fun k _ e => by cases e)
    go_loopw [] (fun wr => ∃ (left : Lit → Bool) (cnt : Nat) (o : Option EvR), wr.ranges Tryz.prog 35 unitElem b v0.heap.size n D left cnt ∧ GreatO rs E (fun x => left (keyD x) = false) o ∧ ObjAt wr bR Z.toList ∧ ObjAt wr bW (encO o) ∧ Below w.heap.size w wr)
      (fun wr => wr.rangeLeft b v0.heap.size)
    case atStart =>
      refine ⟨_, _, none, hrg0, ⟨(fun r c => by cases c), fun z hz hzE hd => ?_⟩, oR0.below b0 oR0.lt, oW0.below b0 oW0.lt, hb0.trans (b0.mono hb0.size)⟩
      rw [hD.has _ (right_fitD (right_dotE (hright z hz))), hasD_iff.2 hzE] at hd
      cases hd
    case round =>
      clear hrg0 hgr0 hs0 b0 oR0 oW0
      obtain ⟨left, cnt, o, hrg, hG, oR, oW, hb⟩ := hrel
      obtain ⟨W, hW⟩ : ∃ W, (encO o).toArray = W := ⟨_, rfl⟩
      have zW : W.size = 19 := by rw [← hW]; exact encO_size o
      have hWl : encO o = W.toList := by rw [← hW]
      rw [hWl] at oW
      go_wp2_with (at_next; refine wpList_next_dots rfl rfl _ rfl b v0.heap.size n D _ _ rfl hrg ?_ ?_)
      · intro hc0 hl0
        have HC := HCL wr o (fun r c => (hG.mem r c).1) (h.below hb)
        rw [hW] at HC
        have oWr := oW
        have oRr := oR
        have hbr := hb
        go_wp2_with (first
          | (refine wpList_loadAll rfl 43 _ rfl bW 19 W rfl oWr Tryz.isAgg43 Tryz.sizeOf43 zW ?_)
          | (go_at_call 116; (with_reducible refine HC.mono ?_); rintro e w3 ⟨q, Q, hQ, hqe, rfl, hrow, hat, hx⟩; have zQ : Q.size = 19 := (by rw [← hQ]; rfl); have oneQ : Q.all (·.oneCell') = true := (by rw [← hQ]; exact encO_one (some q)); have oR3 := oRr.below hx oRr.lt)
          | (refine wpList_storeOver rfl 43 _ _ rfl bR _ Q 19 rfl rfl oR3 (by kernel_rfl) zZl zQ oneQ ?_))
        have HLV := loadVarBig (P := Tryz.prog) 43 bR 19 Q (oR3.setRow Q) Tryz.isAgg43 Tryz.sizeOf43 zQ
        have KR := (Keeps.refl (fun k => k = bR) w3).setRow rfl Q
        have hb3 := hbr.trans (hx.mono hbr.size)
        refine bodyPost_ret (v := .agg Q) (results_big1 Tryz.results81 rfl HLV) rfl ⟨o, q, ⟨hG.mem, fun z hz hzE _ => hG.most z hz hzE (hl0 _)⟩, by rw [hQ], hqe, hrow.keeps KR (fun k hk c => by have := hat k hk; have := oRr.lt; omega), fun k hk => Nat.le_trans hbr.size (hat k hk), below_rowSet hb3 (Nat.le_of_eq hbR) Q⟩
      · intro d i c w1 cnt1 hfd hfi hfc hlk hat hrg1 hlt1 hg1 hs1 hen
        have hfx : FitD ⟨d, i, c⟩ := ⟨hfd, hfi, hfc⟩
        have hmemE : ⟨d, i, c⟩ ∈ E := by
          have h1 := Go.Maps.has_true_of_atKey hat
          rw [hD.has _ hfx] at h1
          exact hasD_iff.1 h1
        obtain ⟨q, hq, hqd⟩ := hE _ hmemE
        have hlq : lookR rs ⟨d, i, c⟩ = some q := by rw [← hqd]; exact lookR_mem hsrt hq
        obtain ⟨A, hA⟩ : ∃ A, (encE q).toArray = A := ⟨_, rfl⟩
        have zA : A.size = 19 := by rw [← hA]; rfl
        have honeA : A.all (·.oneCell') = true := by rw [← hA]; exact encO_one (some q)
        have hLK : ∀ w', KeptIs w' (B .kept) rs → (Instr.lookup 102 (.map (B .kept)) (.agg #[.int .i64 d, .int .i64 i, .int .i64 c]) false).run Tryz.prog w' = .ok (.agg A) w' := fun w' hk' => by
          have := (kept_look hk' hfx).1
          rw [hlq, show (encO (some q)).toArray = A from hA] at this
          exact this
        have hGG := hG.more (Q := fun x => (left (keyD x) && !(keyD x).sameKey (keyD ⟨d, i, c⟩)) = false) hsrt hq (hqd ▸ hmemE) (hright q hq) (fun z hz hd => by
          rcases (left_but hfx (right_fitD (right_dotE (hright z hz)))).1 hd with c | c
          · exact .inl c
          · exact .inr (c.trans hqd.symm))
        have HLE := fun v => lessEvC W A (topD o) q.e.dot (topT o) q.e.stamp (hW ▸ TopE.of o) (hA ▸ TopE.of (some q)) (hG.right hright) (right_fitT (right_stampE (hright q hq))) v
        have k1 := Keeps.ofGrownBy hg1
        have hb1g := hb.trans (grown_below_at hg1 (by have := hb0.size; omega) hb.size)
        have oa := ObjAt.new w1 #[.int .i64 d, .int .i64 i, .int .i64 c] 35
        have ba := below_alloc w1 (.cells #[.int .i64 d, .int .i64 i, .int .i64 c] 35)
        have hrg2 := hrg1.alloc (.cells #[.int .i64 d, .int .i64 i, .int .i64 c] 35)
        have hv0 := hrg1.lt
        have lW := oW.lt
        have lR := oR.lt
        have oW2 := (oW.keeps k1 (fun c => by cases c; omega)).below ba (by omega)
        have oR2 := (oR.keeps k1 (fun c => by cases c; omega)).below ba (by omega)
        have hb2 := hb1g.trans (ba.mono hb1g.size)
        obtain ⟨bd, hbd⟩ : ∃ x, w1.heap.size = x := ⟨_, rfl⟩
        rw [hbd] at oa
        generalize hw4 : w1.alloc (.cells #[.int .i64 d, .int .i64 i, .int .i64 c] 35) = w4 at *
        have h4 := h.below hb2
        have l4 := oa.lt
        have hS1 : ∀ v, Below w4.heap.size w4 v → v.cell? ⟨p, 1, none⟩ = some (.map (B .kept)) ∧ v.cell? ⟨bd, 0, none⟩ = some (.int .i64 d) ∧ v.cell? ⟨bd, 1, none⟩ = some (.int .i64 i) ∧ v.cell? ⟨bd, 2, none⟩ = some (.int .i64 c) ∧ KeptIs v (B .kept) rs := fun v hv => ⟨(h4.below hv).obj.cell 1 rfl, (oa.below hv l4).cell 0 rfl, (oa.below hv l4).cell 1 rfl, (oa.below hv l4).cell 2 rfl, (h4.below hv).kept⟩
        have hb1 : Below w4.heap.size w4 w4.drew := (Below.refl _ _).drew
        obtain ⟨bk, hbk⟩ : ∃ bk, w4.heap.size = bk := ⟨_, rfl⟩
        have o7 : ObjAt (w4.drew.alloc (.cells Z 43)) bk Z.toList := hbk ▸ ObjAt.new w4.drew Z 43
        have c7 : Below w4.heap.size w4 (w4.drew.alloc (.cells Z 43)) := hb1.trans ((below_alloc w4.drew (.cells Z 43)).mono (Nat.le_refl _))
        have c8 := below_rowSet c7 (g := bk) (Nat.le_of_eq hbk) A
        clear hs1 hb1g hrg1 k1 hfd hfi hfc hlk hat ba HCL hG
        go_wp2_with fail
        refine wp_region_held_drew (S := fun w' => w'.cell? ⟨p, 1, none⟩ = some (.map (B .kept)) ∧ w'.cell? ⟨bd, 0, none⟩ = some (.int .i64 d) ∧ w'.cell? ⟨bd, 1, none⟩ = some (.int .i64 i) ∧ w'.cell? ⟨bd, 2, none⟩ = some (.int .i64 c) ∧ KeptIs w' (B .kept) rs) (by kernel_rfl) (hS1 _ hb1) (fun hHeld => ?_)
        first | (refine tR (i := 0) rfl rfl ?_) | (refine tL (i := 0) (v := ?vb1) rfl ?hyb1 ?rb1; case hyb1 => (rintro w' hS; obtain ⟨hs0, hs1, hs2, hs3, hs4⟩ := hS; go_simp; try with_reducible rfl))
        try simp only [gA, gB, Act.put, gD, gE, gF]
        first | (refine tR (i := 1) rfl rfl ?_) | (refine tL (i := 1) (v := ?vb2) rfl ?hyb2 ?rb2; case hyb2 => (rintro w' hS; obtain ⟨hs0, hs1, hs2, hs3, hs4⟩ := hS; go_simp; try with_reducible rfl))
        try simp only [gA, gB, gC, Act.put, gD, gE, gF]
        first | (refine tR (i := 2) rfl rfl ?_) | (refine tL (i := 2) (v := ?vb3) rfl ?hyb3 ?rb3; case hyb3 => (rintro w' hS; obtain ⟨hs0, hs1, hs2, hs3, hs4⟩ := hS; go_simp; try with_reducible rfl))
        try simp only [gA, gB, gC, Act.put, gD, gE, gF]
        first | (refine tR (i := 3) rfl rfl ?_) | (refine tL (i := 3) (v := ?vb4) rfl ?hyb4 ?rb4; case hyb4 => (rintro w' hS; obtain ⟨hs0, hs1, hs2, hs3, hs4⟩ := hS; go_simp; try with_reducible rfl))
        try simp only [gA, gB, gC, Act.put, gD, gE, gF]
        first | (refine tR (i := 4) rfl rfl ?_) | (refine tL (i := 4) (v := ?vb5) rfl ?hyb5 ?rb5; case hyb5 => (rintro w' hS; obtain ⟨hs0, hs1, hs2, hs3, hs4⟩ := hS; go_simp; try with_reducible rfl))
        try simp only [gA, gB, gC, Act.put, gD, gE, gF]
        refine wpAnyH_take (i := 5) (v := .agg A) rfl (by kernel_rfl) (by kernel_rfl) (by kernel_rfl) (fun _ _ _ h => h) (Or.inl ⟨by rfl, fun w' hS => by obtain ⟨hs0, hs1, hs2, hs3, hs4⟩ := hS; exact exec_look (.tmp 17) (.tmp 18) 102 false rfl _ rfl _ rfl (hLK w' hs4)⟩) (by assumption) ?_
        try simp only [gA, gB, gC, Act.put, gD, gE, gF]
        refine wpAnyH_ready (rs := [6]) (by kernel_rfl) (by simp) ?_
        refine AllReadyH.cons (o := _) rfl (fun K hK => ?_) AllReadyH.nil
        go_simp
        skip
        try dsimp only
        refine hK.out _ _ (hS1 _ c7) (fun hHeld => ?_)
        clear hK K
        try simp only [gA, gB, gC, Act.put, gD, gE, gF]
        refine wpAnyH_ready (rs := [7]) (by kernel_rfl) (by simp) ?_
        refine AllReadyH.cons (o := _) rfl (fun K hK => ?_) AllReadyH.nil
        refine step_storeOver (by rfl) 43 (.tmp 7) (.tmp 19) (by rfl) bk Z.toList A 19 rfl rfl o7 (by kernel_rfl) zZl zA honeA ?_
        try dsimp only
        refine hK.out _ _ (hS1 _ c8) (fun hHeld => ?_)
        clear hK K
        try simp only [gA, gB, gC, Act.put, gD, gE, gF]
        refine wpAnyH_done (by kernel_rfl) ?_ _
        have o9 : ObjAt ((w4.alloc (.cells Z 43)).drew.setRow bk A) bk A.toList := o7.setRow A
        have c9 : Below w4.heap.size w4 ((w4.alloc (.cells Z 43)).drew.setRow bk A) := c8
        clear c8
        have c8 := c9
        clear c9
        have lW4 := oW2.lt
        have lR4 := oR2.lt
        have oW9 := oW2.below c8 lW4
        have oR9 := oR2.below c8 lR4
        have hb9 := hb2.trans (c8.mono hb2.size)
        have hrg9 := (Keeps.new (F := fun _ => False) c8).ranges (fun h => h) (fun h => h) hrg2
        clear hS1 hb1 o7 c7 c8 h4 oa hLK hHeld
        generalize ((w4.alloc (.cells Z 43)).drew.setRow bk A) = w5 at *
        have honeW : W.all (·.oneCell') = true := by rw [← hW]; exact encO_one o
        cases hlt : ltE (topD o) (topT o) q.e.dot q.e.stamp with
        | true =>
          simp only [hlt] at HLE
          have hG2 := hGG.1 hlt
          clear hGG
          go_wp2_with (first
            | (refine wpList_loadAll rfl 43 _ rfl bW 19 W rfl oW9 Tryz.isAgg43 Tryz.sizeOf43 zW ?_)
            | (refine wpList_loadAll rfl 43 _ rfl bk 19 A rfl o9 Tryz.isAgg43 Tryz.sizeOf43 zA ?_)
            | (go_at_call 123; (with_reducible refine (HLE _).mono ?_); rintro e w6 ⟨rfl, hx6⟩; replace o9 := o9.below hx6 o9.lt; replace oW9 := oW9.below hx6 oW9.lt; replace oR9 := oR9.below hx6 oR9.lt)
            | (refine wpList_storeOver rfl 43 _ _ rfl bW _ A 19 rfl rfl oW9 (by kernel_rfl) (by rw [Array.length_toList]; exact zW) zA honeA ?_; try simp only [Act.put, List.setIfInBounds_toArray, List.set_cons_zero, List.set_cons_succ]))
          have hb10 := hb9.trans (hx6.mono hb9.size)
          have hrg10 := (Keeps.new (F := fun _ => False) hx6).ranges (fun h => h) (fun h => h) hrg9
          have KW := (Keeps.refl (fun k => k = bW) w6).setRow rfl A
          have hrg11 := KW.ranges (b := b) (r := v0.heap.size) (by have := h.obj.lt; have := hbSZ; omega) (by have := lW0; omega) hrg10
          go_roundw
          case rel =>
            refine ⟨_, cnt1, some q, hrg11, hG2, oR9.setOther (by omega) A, ?_, below_rowSet hb10 (by omega) A⟩
            rw [show encO (some q) = A.toList from by rw [← hA]; rfl]
            exact oW9.setRow A
          case measure => rw [hrg11.left_eq, hrg.left_eq]; exact hlt1
        | false =>
          simp only [hlt] at HLE
          have hG2 := hGG.2 hlt
          clear hGG
          go_wp2_with (first
            | (refine wpList_loadAll rfl 43 _ rfl bW 19 W rfl oW9 Tryz.isAgg43 Tryz.sizeOf43 zW ?_)
            | (refine wpList_loadAll rfl 43 _ rfl bk 19 A rfl o9 Tryz.isAgg43 Tryz.sizeOf43 zA ?_)
            | (go_at_call 123; (with_reducible refine (HLE _).mono ?_); rintro e w6 ⟨rfl, hx6⟩; replace oW9 := oW9.below hx6 oW9.lt; replace oR9 := oR9.below hx6 oR9.lt))
          have hb10 := hb9.trans (hx6.mono hb9.size)
          have hrg10 := (Keeps.new (F := fun _ => False) hx6).ranges (fun h => h) (fun h => h) hrg9
          go_roundw
          case rel => exact ⟨_, cnt1, o, hrg10, hG2, oR9, by rw [hWl]; exact oW9, hb10⟩
          case measure => rw [hrg10.left_eq, hrg.left_eq]; exact hlt1
theorem mem_keyM {m : MapN} {x : ItemL} {e : EventN} : e ∈ keyM m x ↔ e ∈ m.kept ∧ aliveB m.dead e = true ∧ kOf e.item = kOf x := by
  unfold keyM
  rw [List.mem_filter, alive_is, List.mem_filter, sameKey_iff, and_assoc]
theorem great_is {w : World} {p : Nat} {B : Slots} {rs : List EvR} {m : MapN} (h : Real w p B rs m) {x : ItemL} {o : Option EvR} (hG : GreatO rs (dotsK m.kept m.dead (kOf x)) (fun _ => True) o) : winnerM m x = o.map (·.e) ∧ (B (.of (kOf x))).isSome = (winnerM m x).isSome := by
  have hin : ∀ r ∈ rs, r.e ∈ m.kept := fun r hr => h.rs ▸ List.mem_map.2 ⟨r, hr, rfl⟩
  have hsk : SortedE m.kept := h.ok.ok.kept
  have hw : winnerM m x = o.map (·.e) := by
    refine best_is hsk (fun r ho => ?_) (fun e he => ?_)
    · obtain ⟨h1, h2⟩ := hG.mem r ho
      obtain ⟨e, e1, e2, e3, e4⟩ := mem_dotsK.1 h2
      obtain rfl := one_dot hsk e1 (hin r h1) e2
      exact mem_keyM.2 ⟨e1, e3, e4⟩
    · obtain ⟨e1, e2, e3⟩ := mem_keyM.1 he
      rw [← h.rs] at e1
      obtain ⟨z, hz, rfl⟩ := List.mem_map.1 e1
      exact hG.most z hz (mem_dotsK.2 ⟨z.e, hin z hz, rfl, e2, e3⟩) trivial
  refine ⟨hw, ?_⟩
  rw [hw, Option.isSome_map]
  have hof := h.of (kOf x)
  cases o with
  | none =>
    have hnil : dotsK m.kept m.dead (kOf x) = [] := by
      cases hd : dotsK m.kept m.dead (kOf x) with
      | nil => rfl
      | cons d t =>
        have hd1 : d ∈ dotsK m.kept m.dead (kOf x) := by rw [hd]; exact List.mem_cons_self ..
        obtain ⟨e, e1, e2, -, -⟩ := mem_dotsK.1 hd1
        rw [← h.rs] at e1
        obtain ⟨z, hz, rfl⟩ := List.mem_map.1 e1
        obtain ⟨r, c, -⟩ := hG.most z hz (e2.symm ▸ hd1) trivial
        cases c
    rw [h.nothing _ hnil]
    rfl
  | some r =>
    have h2 := (hG.mem r rfl).2
    cases hB : B (.of (kOf x)) with
    | none =>
      rw [hB] at hof
      rcases hof with ⟨-, c⟩ | ⟨b, n, D, c, -⟩
      · rw [c] at h2
        exact absurd h2 List.not_mem_nil
      · cases c
    | some b => rfl
end Go.Proofs.YtaodjnkjjmhecaaGreatDoor
namespace Go.Proofs.YtaodjnkjjmhecaaGreatDoor
open Go.RowKit
set_option linter.unusedVariables false
def awB : DotN := ⟨1, 1, 1⟩
def awE1 : EventN := ⟨awB, ⟨0, 0, 1⟩, 2, ItemL.none, [awA]⟩
def awM1 : MapN := ⟨[awB], [awE1], [awA]⟩
def awM2 : MapN := ⟨[awA, awB], [awE2, awE1], [awA]⟩
theorem or_ex1 : applyM MapN.none awE1 = (awM1, true, 0) := by kernel_rfl
theorem or_ex2 : applyM awM1 awE2 = (awM2, true, 0) := by kernel_rfl
theorem or_ex3 : aliveM awM2 = [] := by kernel_rfl
theorem or_ex4 : hasD awM2.dead awA = true := by kernel_rfl
theorem or_ex5 : lightE awE1 = true := by kernel_rfl
set_option maxHeartbeats 1000000 in
set_option maxRecDepth 100000 in
theorem awake21C (w : World) (hTb : OTb w) : Calls Tryz.prog 16 #[] w fun e w' => e = .returned (.bool true) ∧ Below w.heap.size w w' := by
  have HN := fun v => mNewC v
  have H1 : ∀ (p : Nat) (F R : Nat → Prop) (q : Option Addr) (v : World), MapAt v p F R MapN.none → RowOf encD 3 v q 1 1 [awA] → (∀ k, At q k → ¬ F k) → OTb v → Calls Tryz.prog 19 #[.pointer (some ⟨p, 0, none⟩), .agg #[.int .i64 1, .int .i64 1, .int .i64 1, .int .i64 0, .int .i64 0, .int .i64 1, .int .i64 2, .string ⟨#[]⟩, .string ⟨#[]⟩, .string ⟨#[]⟩, .string ⟨#[]⟩, .bool false, .bool false, .bool false, .bool false, .int .i64 0, .int .i64 0, .int .i64 0, .slice q 1 1]] v (Turns p F R q awM1 (.tuple #[.bool true, .int .i64 0]) v) := fun p F R q v h hr hF ht => by
    have := mApplyC p F R MapN.none ⟨awE1, q, 1⟩ #[.int .i64 1, .int .i64 1, .int .i64 1, .int .i64 0, .int .i64 0, .int .i64 1, .int .i64 2, .string ⟨#[]⟩, .string ⟨#[]⟩, .string ⟨#[]⟩, .string ⟨#[]⟩, .bool false, .bool false, .bool false, .bool false, .int .i64 0, .int .i64 0, .int .i64 0, .slice q 1 1] rfl v h hr hF or_ex5 ht (Nat.zero_le _)
    rw [show overA ⟨awE1, q, 1⟩ = q from rfl] at this
    rw [or_ex1] at this
    exact this
  have H2 : ∀ (p : Nat) (F R : Nat → Prop) (v : World), MapAt v p F R awM1 → OTb v → Calls Tryz.prog 19 #[.pointer (some ⟨p, 0, none⟩), .agg #[.int .i64 0, .int .i64 1, .int .i64 1, .int .i64 0, .int .i64 0, .int .i64 0, .int .i64 1, .string ⟨#[110]⟩, .string ⟨#[100]⟩, .string ⟨#[47]⟩, .string ⟨#[]⟩, .bool false, .bool false, .bool false, .bool false, .int .i64 1099511627776, .int .i64 0, .int .i64 0, .slice none 0 0]] v (Turns p F R none awM2 (.tuple #[.bool true, .int .i64 0]) v) := fun p F R v h ht => by
    have := mApplyC p F R awM1 ⟨awE2, none, 0⟩ #[.int .i64 0, .int .i64 1, .int .i64 1, .int .i64 0, .int .i64 0, .int .i64 0, .int .i64 1, .string ⟨#[110]⟩, .string ⟨#[100]⟩, .string ⟨#[47]⟩, .string ⟨#[]⟩, .bool false, .bool false, .bool false, .bool false, .int .i64 1099511627776, .int .i64 0, .int .i64 0, .slice none 0 0] rfl v h (RowOf.none encD 3 v) (fun k hk => by obtain ⟨x, hx, -⟩ := hk; cases hx) or_ex6 ht (by decide)
    rw [show overA ⟨awE2, none, 0⟩ = none from rfl] at this
    rw [or_ex2] at this
    exact this
  have HA : ∀ (p : Nat) (F R : Nat → Prop) (v : World), MapAt v p F R awM2 → Calls Tryz.prog 44 #[.pointer (some ⟨p, 0, none⟩)] v (GivesEs [] v) := fun p F R v h => by
    have := mAliveC p F R awM2 v h
    rw [or_ex3] at this
    exact this
  have HL : ∀ (p : Nat) (F R : Nat → Prop) (v : World), MapAt v p F R awM2 → Calls Tryz.prog 46 #[.pointer (some ⟨p, 0, none⟩)] v fun en w' => en = .returned (.int .i64 2) ∧ Below v.heap.size v w' := fun p F R v h => mLenC p F R awM2 v h
  have HD : ∀ (p : Nat) (F R : Nat → Prop) (v : World), MapAt v p F R awM2 → Calls Tryz.prog 38 #[.pointer (some ⟨p, 0, none⟩), .agg #[.int .i64 0, .int .i64 1, .int .i64 1]] v fun en w' => en = .returned (.bool true) ∧ Below v.heap.size v w' := fun p F R v h => by
    have := mDeadC p F R awM2 awA v h (by unfold awA; refine ⟨?_, ?_, ?_⟩ <;> (unfold is64; decide))
    rw [or_ex4] at this
    exact this
  unfold Turns at H1 H2
  unfold GivesEs at HA
  go_enter Tryz.func16, Tryz.ntmps16
  go_wp2_with (first
    | (go_at_call 17; (with_reducible refine (HN _).mono ?_); rintro e w1 ⟨p, F, R, rfl, hm1, hF, hx1⟩; have ba := below_alloc w1 (.cells #[.int .i64 0, .int .i64 1, .int .i64 1] 35); have bb := below_alloc (w1.alloc (.cells #[.int .i64 0, .int .i64 1, .int .i64 1] 35)) (.cells #[.int .i64 1, .int .i64 1, .int .i64 1] 35); have bc := below_alloc ((w1.alloc (.cells #[.int .i64 0, .int .i64 1, .int .i64 1] 35)).alloc (.cells #[.int .i64 1, .int .i64 1, .int .i64 1] 35)) (.cells #[.int .i64 0, .int .i64 1, .int .i64 1] 35); have oa := ((ObjAt.new w1 #[.int .i64 0, .int .i64 1, .int .i64 1] 35).below bb (by simp)).below bc (by simp; omega); have hrq := (OwnZ.new encD_len [awA] #[.int .i64 0, .int .i64 1, .int .i64 1] rfl 1 rfl (by unfold maxLen; omega) 35 ((w1.alloc (.cells #[.int .i64 0, .int .i64 1, .int .i64 1] 35)).alloc (.cells #[.int .i64 1, .int .i64 1, .int .i64 1] 35))).row encD_len; have hsz : ((w1.alloc (.cells #[.int .i64 0, .int .i64 1, .int .i64 1] 35)).alloc (.cells #[.int .i64 1, .int .i64 1, .int .i64 1] 35)).heap.size = w1.heap.size + 1 + 1 := (by simp); rw [hsz] at hrq; have hm3 := ((hm1.below ba).below bb).below bc; have hb3 := (hx1.trans (ba.mono hx1.size)).trans ((bb.trans (bc.mono bb.size)).mono (Nat.le_trans hx1.size ba.size)); have hq : ∀ k, At (some ⟨w1.heap.size + 1 + 1, 0, none⟩) k → ¬ F k := fun k hk hf => (by have e : w1.heap.size + 1 + 1 = k := at_some.1 hk; have := hm1.lt k (.inl hf); omega); have hna : ¬ F w1.heap.size := fun hf => Nat.lt_irrefl _ (hm1.lt _ (.inl hf)))
    | (go_at_call 19; (with_reducible refine (H1 _ _ _ _ _ hm3 hrq hq (hTb.below hb3)).mono ?_); rintro e w4 ⟨rfl, F4, R4, hm4, hk4, hn4, -⟩; have oa4 := oa.keeps hk4 hna; have hb4 := hb3.trans (hk4.below hb3.size (fun i _ h => hF i (.inl h))); have hna4 : ¬ F4 w1.heap.size := fun hf => (hn4 _ hf).elim hna (fun h => by have := oa.lt; omega); have u0 := oa4.cell 0 rfl; have u1 := oa4.cell 1 rfl; have u2 := oa4.cell 2 rfl)
    | (go_at_call 19; (with_reducible refine (H2 _ _ _ _ hm4 (hTb.below hb4)).mono ?_); rintro e w5 ⟨rfl, F5, R5, hm5, hk5, hn5, -⟩; have oa5 := oa4.keeps hk5 hna4; have hb5 := hb4.trans (hk5.below hb4.size (fun i _ h => (hn4 i h).elim (fun h => hF i (.inl h)) (fun h => Nat.le_trans hb3.size h))))
    | (go_at_call 44; (with_reducible refine (HA _ _ _ _ hm5).mono ?_); rintro e w6 ⟨a6, n6, c6, rfl, hr6, hx6⟩; have hl6 := hr6.leq; have hm6 := hm5.below hx6; have oa6 := oa5.below hx6 oa5.lt; have hb6 := hb5.trans (hx6.mono hb5.size); obtain rfl : 0 = n6 := hl6)
    | (go_at_call 46; (with_reducible refine (HL _ _ _ _ hm6).mono ?_); rintro e w7 ⟨rfl, hx7⟩; have hm7 := hm6.below hx7; have oa7 := oa6.below hx7 oa6.lt; have hb7 := hb6.trans (hx7.mono hb6.size); have u0 := oa7.cell 0 rfl; have u1 := oa7.cell 1 rfl; have u2 := oa7.cell 2 rfl)
    | (go_at_call 38; (with_reducible refine (HD _ _ _ _ hm7).mono ?_); rintro e w8 ⟨rfl, hx8⟩; have hb8 := hb7.trans (hx8.mono hb7.size)))
  go_ret
  exact ⟨rfl, hb8⟩
end Go.Proofs.YtaodjnkjjmhecaaGreatDoor
