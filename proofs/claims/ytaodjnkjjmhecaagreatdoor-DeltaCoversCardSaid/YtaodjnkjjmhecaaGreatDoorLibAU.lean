/- Contracts and plain words that the laws' proofs stand on. -/
import Derived.Test.YtaodjnkjjmhecaaGreatDoorShort
import Derived.Test.YtaodjnkjjmhecaaGreatDoorOrRef12
namespace Go.Proofs.YtaodjnkjjmhecaaGreatDoor
open Go.RowKit
set_option linter.unusedVariables false
set_option linter.unusedSimpArgs false
theorem refApplyC (ac : Option Addr) (nc cc : Nat) (ak : Option Addr) (nk ck : Nat) (ad : Option Addr) (nd cd : Nat) (m : MapR) (r : EvR) (A : Array Value) (hA : (encE r).toArray = A) (w : World) (hM : RowM w ac nc cc ak nk ck ad nd cd m) (hOk : OkV m.ctx) (hE : RowOf encD 3 w r.a r.e.over.length r.c r.e.over) (hT : r.e.item.name.length ≤ 100000 ∧ r.e.item.dom.length ≤ 100000 ∧ r.e.item.path.length ≤ 100000 ∧ r.e.item.val.length ≤ 100000) (hnc : nc ≤ 1000000) (hnd : nd ≤ 90000) (hno : r.e.over.length ≤ 1000) :
    Calls Tryz.prog 18 #[.agg #[.slice ac nc cc, .slice ak nk ck, .slice ad nd cd], .agg A] w (GivesM3 ac ak ad (applyR m r).1 (applyR m r).2.1 (applyR m r).2.2 w) := by
  cases h : (applyR m r).2.1 with
  | true => have := refApplyYes ac nc cc ak nk ck ad nd cd m r A hA w hM hOk hE hT h hnc hnd hno; rw [h] at this; exact this
  | false => have := refApplyNo ac nc cc ak nk ck ad nd cd m r A hA w hM hOk hE hT h; rw [h] at this; exact this
theorem row_obj {α : Type} {enc : α → List Value} {z : Nat} (h0 : ∀ x, ∃ n, (enc x)[0]? = some (.int .i64 n)) {w w' : World} {a : Option Addr} {n c : Nat} {P : List α} (h : RowOf enc z w a n c P) {b : Nat} {vs : List Value} (o : ObjAt w b vs) (hv : ∀ v ∈ vs, ∀ n, v ≠ .int .i64 n) (hk : Keeps (fun k => k = b) w w') : RowOf enc z w' a n c P := by
  refine ⟨h.leq, h.cle, h.capm, h.nil0, fun i x hx => ?_⟩
  obtain ⟨g, off, e, hc⟩ := h.at_ i x hx
  refine ⟨g, off, e, fun j v hj => hk.cell (hc j v hj) ?_⟩
  show ¬ g = b
  rintro rfl
  obtain ⟨n0, h1⟩ := h0 x
  have h2 := hc 0 _ h1
  rw [Nat.add_zero] at h2
  obtain ⟨e2, he⟩ := o.heap
  cases hq : vs[off + i * z]? with
  | none => simp [World.cell?, he, hq] at h2
  | some u =>
    have h3 := o.cell (off + i * z) hq
    rw [h3] at h2
    exact hv u (List.mem_of_getElem? hq) n0 (Option.some.inj h2)
theorem encD_int (x : DotN) : ∃ n, (encD x)[0]? = some (.int .i64 n) := ⟨_, rfl⟩
theorem encE_int (x : EvR) : ∃ n, (encE x)[0]? = some (.int .i64 n) := ⟨_, rfl⟩
theorem RowM.obj {w w' : World} {ac ak ad : Option Addr} {nc cc nk ck nd cd : Nat} {m : MapR} (h : RowM w ac nc cc ak nk ck ad nd cd m) {b : Nat} {vs : List Value} (o : ObjAt w b vs) (hv : ∀ v ∈ vs, ∀ n, v ≠ .int .i64 n) (hk : Keeps (fun k => k = b) w w') : RowM w' ac nc cc ak nk ck ad nd cd m :=
  ⟨row_obj encD_int h.ctx o hv hk, row_obj encE_int h.kept o hv hk, row_obj encD_int h.dead o hv hk⟩
structure FewM (m : MapR) (k : Nat) : Prop where
  ok : OkV m.ctx
  ctx : m.ctx.length ≤ k
  kept : m.kept.length ≤ k
  dead : m.dead.length ≤ 100 * k
theorem FewM.apply {m : MapR} {k : Nat} (h : FewM m k) (r : EvR) (ho : r.e.over.length ≤ 100) : FewM (applyR m r).1 (k + 1) := by
  have hw : FewM m (k + 1) := ⟨h.ok, Nat.le_succ_of_le h.ctx, Nat.le_succ_of_le h.kept, by have := h.dead; omega⟩
  unfold applyR
  split
  · exact hw
  rename_i hr
  split
  · exact hw
  split
  · exact hw
  split
  · exact hw
  have hr2 : rightD r.e.dot = true := by
    have h1 : rightE r.e = true := by simpa using hr
    unfold rightE headE at h1
    rw [Bool.and_eq_true, Bool.and_eq_true] at h1
    exact h1.1.1
  have h1 := set_few h.ok r.e.dot
  have h2 := sortD_len (m.dead ++ r.e.over)
  rw [List.length_append] at h2
  have h3 := h.dead; have h4 := h.ctx; have h5 := h.kept
  exact ⟨set_ok h.ok hr2, by dsimp only; omega, by dsimp only; rw [insR_len]; omega, by dsimp only; omega⟩
def foldR (l : List EvR) : MapR := l.foldl (fun m r => (applyR m r).1) ⟨[], [], []⟩
theorem fold_map (l : List EvR) : (foldR l).plain = foldM (l.map (·.e)) := by
  have h : ∀ (l : List EvR) (m : MapR), (l.foldl (fun m r => (applyR m r).1) m).plain = (l.map (·.e)).foldl (fun m e => (applyM m e).1) m.plain := by
    intro l
    induction l with
    | nil => exact fun _ => rfl
    | cons r t ih =>
      intro m
      rw [List.foldl_cons, List.map_cons, List.foldl_cons, ih, (apply_map m r).1]
  exact h l _
theorem fold_few (l : List EvR) (h : ∀ r ∈ l, r.e.over.length ≤ 100) : ∀ k, FewM (foldR (l.take k)) k := by
  intro k
  induction k with
  | zero => exact ⟨nil_ok, Nat.le_refl _, Nat.le_refl _, Nat.le_refl _⟩
  | succ k ih =>
    by_cases hk : k < l.length
    · have e : l.take (k + 1) = l.take k ++ [l[k]] := by rw [List.take_succ_eq_append_getElem hk]
      unfold foldR at *
      rw [e, List.foldl_append]
      exact ih.apply _ (h _ (List.getElem_mem hk))
    · rw [List.take_of_length_le (by omega)]
      rw [List.take_of_length_le (by omega)] at ih
      exact ⟨ih.ok, Nat.le_succ_of_le ih.ctx, Nat.le_succ_of_le ih.kept, by have := ih.dead; omega⟩
set_option maxHeartbeats 4000000 in
set_option maxRecDepth 100000 in
theorem refFoldC (al : Option Addr) (n c : Nat) (L : List EvR) (w : World) (hL : RowOf encE 19 w al n c L) (hO : OversAt w L) (hg : ∀ r ∈ L, lightE r.e = true) (hn : n ≤ 900) :
    Calls Tryz.prog 29 #[.slice al n c] w fun en w' => ∃ ac nc cc ak nk ck ad nd cd, en = .returned (.agg #[.slice ac nc cc, .slice ak nk ck, .slice ad nd cd]) ∧ RowM w' ac nc cc ak nk ck ad nd cd (foldR L) ∧ (∀ k, (At ac k ∨ At ak k ∨ At ad k) → w.heap.size ≤ k ∧ k < w'.heap.size) ∧ Below w.heap.size w w' := by
  have hcm := hL.capm
  have hcl := hL.cle
  have hln := hL.leq
  unfold maxLen at hcm
  obtain ⟨z0, z1, b0⟩ := objsE2 w #[.slice none 0 0, .slice none 0 0, .slice none 0 0] #[.slice none 0 0, .slice none 0 0, .slice none 0 0] 31 31
  have hr0 : RowM ((w.alloc (.cells #[.slice none 0 0, .slice none 0 0, .slice none 0 0] 31)).alloc (.cells #[.slice none 0 0, .slice none 0 0, .slice none 0 0] 31)) none 0 0 none 0 0 none 0 0 (foldR (L.take 0)) := ⟨(OwnZ.none encD 3 0 35 _).row encD_len, (OwnZ.none encE 19 0 43 _).row encE_len, (OwnZ.none encD 3 0 35 _).row encD_len⟩
  go_enter Tryz.func29, Tryz.ntmps29
  go_wp2
  go_loopw [4] (fun i wr => ∃ (k : Nat) (ac : Option Addr) (nc cc : Nat) (ak : Option Addr) (nk ck : Nat) (ad : Option Addr) (nd cd : Nat), k ≤ n ∧ i = .int .i64 (k : Int) ∧ RowM wr ac nc cc ak nk ck ad nd cd (foldR (L.take k)) ∧ (∀ k, (At ac k ∨ At ak k ∨ At ad k) → w.heap.size ≤ k ∧ k < wr.heap.size) ∧ ObjAt wr (w.heap.size + 1) [.slice ac nc cc, .slice ak nk ck, .slice ad nd cd] ∧ ObjAt wr w.heap.size [.slice none 0 0, .slice none 0 0, .slice none 0 0] ∧ Below w.heap.size w wr) (fun i _ => n - (intOf i).toNat)
  case atStart => exact ⟨0, none, 0, 0, none, 0, 0, none, 0, 0, Nat.zero_le _, rfl, hr0, fun k hk => absurd hk (fun h => h.elim (at_none k) (fun h => h.elim (at_none k) (at_none k))), z1, z0, b0⟩
  case round =>
    clear hr0 z0 z1 b0
    obtain ⟨k, ac, nc, cc, ak, nk, ck, ad, nd, cd, hk, rfl, hM, hnw, ho, hr, hb⟩ := hrel
    by_cases hlt : k < n
    · have hlt' : (k : Int) < (n : Int) := by omega
      have i1 : (0 : Int) ≤ (k : Int) := by omega
      obtain ⟨r, g1, f1, A, hk1, rfl, hA, zA, lA, cA, kA⟩ := evr_at (hL.below hb) k hlt
      have hmem := List.mem_of_getElem? hk1
      have hgr := hg r hmem
      unfold lightE at hgr
      simp only [Bool.and_eq_true, decide_eq_true_eq] at hgr
      have hfew := fold_few L (fun x hx => by have := hg x hx; unfold lightE at this; simp only [Bool.and_eq_true, decide_eq_true_eq] at this; exact this.1) k
      have hst : (applyR (foldR (L.take k)) r).1 = foldR (L.take (k + 1)) := by rw [take_snocI hk1]; unfold foldR; rw [List.foldl_append]; rfl
      have HST := Lib.hid hst
      generalize foldR (L.take k) = m at *
      have hl1 := hM.ctx.leq; have hl2 := hM.kept.leq; have hl3 := hM.dead.leq
      have hf1 := hfew.ctx; have hf2 := hfew.kept; have hf3 := hfew.dead
      have HA := fun v (hv : Below wr.heap.size wr v) => refApplyC ac nc cc ak nk ck ad nd cd m r A hA v (hM.below hv) hfew.ok ((hO r hmem).below (hb.trans (hv.mono hb.size))) ⟨by omega, by omega, by omega, by omega⟩ (by omega) (by omega) (by omega)
      unfold GivesM3 at HA
      generalize (applyR m r).1 = m9 at *
      generalize (applyR m r).2.1 = bb at *
      generalize (applyR m r).2.2 = ee at *
      have HSX : ∀ v, Below wr.heap.size wr v → v.cell? ⟨w.heap.size + 1, 0, none⟩ = some (.slice ac nc cc) ∧ v.cell? ⟨w.heap.size + 1, 1, none⟩ = some (.slice ak nk ck) ∧ v.cell? ⟨w.heap.size + 1, 2, none⟩ = some (.slice ad nd cd) ∧ CellsAt v g1 (f1 + k * 19) A.toList := fun v hv => ⟨(ho.below hv ho.lt).cell 0 rfl, (ho.below hv ho.lt).cell 1 rfl, (ho.below hv ho.lt).cell 2 rfl, kA v hv⟩
      have om0 := fun v (hv : Below wr.heap.size wr v) => ho.below hv ho.lt
      have hre := fun v (hv : Below wr.heap.size wr v) => hr.below hv hr.lt
      clear hst hk1 cA kA hgr hfew hmem hO hg hM ho hr hl1 hl2 hl3 hf1 hf2 hf3 hA lA
      go_wp2_with fail
      refine wp_region_held_drew (S := fun w' => w'.cell? ⟨w.heap.size + 1, 0, none⟩ = some (.slice ac nc cc) ∧ w'.cell? ⟨w.heap.size + 1, 1, none⟩ = some (.slice ak nk ck) ∧ w'.cell? ⟨w.heap.size + 1, 2, none⟩ = some (.slice ad nd cd) ∧ CellsAt w' g1 (f1 + k * 19) A.toList) (by kernel_rfl) (HSX _ (Below.refl wr.heap.size wr).drew) (fun hHeld => ?_)
      have hd0 : Below wr.heap.size wr wr.drew := (Below.refl wr.heap.size wr).drew
      generalize wr.drew = u0 at *
      first | (refine tR (i := 0) rfl rfl ?_) | (refine tL (i := 0) (v := ?vi1) rfl ?hyi1 ?ri1; case hyi1 => (rintro w' hS; obtain ⟨hs0, hs1, hs2, hs3⟩ := hS; go_simp; try with_reducible rfl))
      try simp only [gA, gB, Act.put, gD, gE, gF]
      first | (refine tR (i := 1) rfl rfl ?_) | (refine tL (i := 1) (v := ?vi2) rfl ?hyi2 ?ri2; case hyi2 => (rintro w' hS; obtain ⟨hs0, hs1, hs2, hs3⟩ := hS; go_simp; try with_reducible rfl))
      try simp only [gA, gB, gC, Act.put, gD, gE, gF]
      first | (refine tR (i := 2) rfl rfl ?_) | (refine tL (i := 2) (v := ?vi3) rfl ?hyi3 ?ri3; case hyi3 => (rintro w' hS; obtain ⟨hs0, hs1, hs2, hs3⟩ := hS; go_simp; try with_reducible rfl))
      try simp only [gA, gB, gC, Act.put, gD, gE, gF]
      first | (refine tR (i := 3) rfl rfl ?_) | (refine tL (i := 3) (v := ?vi4) rfl ?hyi4 ?ri4; case hyi4 => (rintro w' hS; obtain ⟨hs0, hs1, hs2, hs3⟩ := hS; go_simp; try with_reducible rfl))
      try simp only [gA, gB, gC, Act.put, gD, gE, gF]
      refine wpAnyH_take (i := 4) rfl (by kernel_rfl) (by kernel_rfl) (by kernel_rfl) (fun _ _ _ h => h) (Or.inl ⟨by rfl, fun w' hS => (by obtain ⟨-, -, -, hs3⟩ := hS; exact execLoadRow 43 _ rfl g1 (f1 + k * 19) 19 A rfl hs3 Tryz.isAgg43 Tryz.sizeOf43 zA)⟩) (by assumption) ?_
      try simp only [gA, gB, gC, Act.put, gD, gE, gF]
      refine wpAnyH_ready (rs := [5, 10]) (by kernel_rfl) (by simp) ?_
      refine AllReadyH.cons (o := _) rfl (fun K' hK' => ?_) (AllReadyH.cons (o := _) rfl (fun K' hK' => ?_) AllReadyH.nil)
      · go_simp
        go_at_call 18
        refine (HA u0 hd0).mono ?_
        rintro e w5 ⟨bc, mc, dc, bk, mk, dk, bd, md, dd, rfl, hM5, hl5, hx5⟩
        have hb5 := hd0.trans (hx5.mono hd0.size)
        have hn5 : ∀ k, (At bc k ∨ At bk k ∨ At bd k) → w.heap.size ≤ k ∧ k < w5.heap.size := fun k hk => (hl5 k hk).elim (fun h => ⟨(hnw k h).1, Nat.lt_of_lt_of_le (hnw k h).2 hb5.size⟩) (fun h => ⟨Nat.le_trans hb.size (Nat.le_trans hd0.size h.1), h.2⟩)
        clear hl5
        dsimp only
        refine hK'.out _ _ (HSX _ hb5) (fun hHeld => ?_)
        clear hK' K'
        try simp only [gA, gB, gC, Act.put, gD, gE, gF]
        first | (refine tR (i := 6) rfl rfl ?_) | (refine tL (i := 6) (v := ?vi5) rfl ?hyi5 ?ri5; case hyi5 => (rintro w' hS; obtain ⟨hs0, hs1, hs2, hs3⟩ := hS; go_simp; try with_reducible rfl))
        try simp only [gA, gB, gC, Act.put, gD, gE, gF]
        first | (refine tR (i := 7) rfl rfl ?_) | (refine tL (i := 7) (v := ?vi6) rfl ?hyi6 ?ri6; case hyi6 => (rintro w' hS; obtain ⟨hs0, hs1, hs2, hs3⟩ := hS; go_simp; try with_reducible rfl))
        try simp only [gA, gB, gC, Act.put, gD, gE, gF]
        first | (refine tR (i := 8) rfl rfl ?_) | (refine tL (i := 8) (v := ?vi7) rfl ?hyi7 ?ri7; case hyi7 => (rintro w' hS; obtain ⟨hs0, hs1, hs2, hs3⟩ := hS; go_simp; try with_reducible rfl))
        try simp only [gA, gB, gC, Act.put, gD, gE, gF]
        first | (refine tR (i := 9) rfl rfl ?_) | (refine tL (i := 9) (v := ?vi8) rfl ?hyi8 ?ri8; case hyi8 => (rintro w' hS; obtain ⟨hs0, hs1, hs2, hs3⟩ := hS; go_simp; try with_reducible rfl))
        try simp only [gA, gB, gC, Act.put, gD, gE, gF]
        refine wpAnyH_ready (rs := [10]) (by kernel_rfl) (by simp) ?_
        refine AllReadyH.cons (o := _) rfl (fun K' hK' => ?_) AllReadyH.nil
        go_simp
        have ba := below_alloc w5 (.cells #[.slice none 0 0, .slice none 0 0, .slice none 0 0] 31)
        have oz := ObjAt.new w5 #[.slice none 0 0, .slice none 0 0, .slice none 0 0] 31
        have hb6 := hb5.trans (ba.mono hb5.size)
        refine hK'.out _ _ (HSX _ hb6) (fun hHeld => ?_)
        clear hK' K'
        try simp only [gA, gB, gC, Act.put, gD, gE, gF]
        generalize w5.alloc (.cells #[.slice none 0 0, .slice none 0 0, .slice none 0 0] 31) = w6 at *
        have hle := hb5.size
        have hM6 := hM5.below ba
        have y0 := oz.cell 0 rfl; have y1 := oz.cell 1 rfl; have y2 := oz.cell 2 rfl; have f0 := oz.free 0; have f1' := oz.free 1; have f2 := oz.free 2
        have o7 := ((oz.set 0 (.slice bc mc dc)).set 1 (.slice bk mk dk)).set 2 (.slice bd md dd)
        have hb7 := ((hb6.setCell (p := ⟨w5.heap.size, 0, none⟩) hle (.slice bc mc dc)).setCell (p := ⟨w5.heap.size, 1, none⟩) hle (.slice bk mk dk)).setCell (p := ⟨w5.heap.size, 2, none⟩) hle (.slice bd md dd)
        have hk7 := (((Keeps.refl (fun b => b = w5.heap.size) w6).setCell (x := ⟨w5.heap.size, 0, none⟩) rfl (.slice bc mc dc)).setCell (x := ⟨w5.heap.size, 1, none⟩) rfl (.slice bk mk dk)).setCell (x := ⟨w5.heap.size, 2, none⟩) rfl (.slice bd md dd)
        refine wpAnyH_ready (rs := [11]) (by kernel_rfl) (by simp) ?_
        refine AllReadyH.cons (o := _) rfl (fun K' hK' => ?_) AllReadyH.nil
        go_simp
        refine hK'.out _ _ (HSX _ hb7) (fun hHeld => ?_)
        clear hK' K'
        try simp only [gA, gB, gC, Act.put]
        have hM7 := hM6.obj oz (by intro v hv; simp at hv; rcases hv with rfl | rfl | rfl <;> (intro n c; cases c)) hk7
        generalize hw7 : (((w6.setCell ⟨w5.heap.size, 0, none⟩ (.slice bc mc dc)).setCell ⟨w5.heap.size, 1, none⟩ (.slice bk mk dk)).setCell ⟨w5.heap.size, 2, none⟩ (.slice bd md dd)) = w7 at *
        have h57 : w5.heap.size ≤ w7.heap.size := Nat.le_trans ba.size hk7.size
        first | (refine tR (i := 12) rfl rfl ?_) | (refine tL (i := 12) (v := ?vi9) rfl ?hyi9 ?ri9; case hyi9 => (rintro w' hS; obtain ⟨hs0, hs1, hs2, hs3⟩ := hS; go_simp; try with_reducible rfl))
        try simp only [gA, gB, gC, Act.put, gD, gE, gF]
        first | (refine tR (i := 13) rfl rfl ?_) | (refine tL (i := 13) (v := ?vi10) rfl ?hyi10 ?ri10; case hyi10 => (rintro w' hS; obtain ⟨hs0, hs1, hs2, hs3⟩ := hS; go_simp; try with_reducible rfl))
        try simp only [gA, gB, gC, Act.put, gD, gE, gF]
        refine wpAnyH_done (by kernel_rfl) ?_ _
        have hB7 := hb.trans (hb7.mono hb.size)
        have e0 := o7.cell 0 rfl; have e1 := o7.cell 1 rfl; have e2 := o7.cell 2 rfl
        have re7 := hre _ hb7
        have om := om0 _ hb7; have p0 := om.cell 0 rfl; have p1 := om.cell 1 rfl; have p2 := om.cell 2 rfl; have q0 := om.free 0; have q1 := om.free 1; have q2 := om.free 2
        clear hb7 hk7 o7 hM5 hM6 hHeld y0 y1 y2 f0 f1' f2 hb6 hb5 hd0 hx5 oz ba
        go_wp2
        have hk9 := (((Keeps.refl (fun b => b = w.heap.size + 1) w7).setCell (x := ⟨w.heap.size + 1, 0, none⟩) rfl (.slice bc mc dc)).setCell (x := ⟨w.heap.size + 1, 1, none⟩) rfl (.slice bk mk dk)).setCell (x := ⟨w.heap.size + 1, 2, none⟩) rfl (.slice bd md dd)
        have o9 := ((om.set 0 (.slice bc mc dc)).set 1 (.slice bk mk dk)).set 2 (.slice bd md dd)
        have hb9 := ((hB7.setCell (p := ⟨w.heap.size + 1, 0, none⟩) (Nat.le_succ _) (.slice bc mc dc)).setCell (p := ⟨w.heap.size + 1, 1, none⟩) (Nat.le_succ _) (.slice bk mk dk)).setCell (p := ⟨w.heap.size + 1, 2, none⟩) (Nat.le_succ _) (.slice bd md dd)
        have hM9 := hM7.obj om (by intro v hv; simp at hv; rcases hv with rfl | rfl | rfl <;> (intro n c; cases c)) hk9
        go_roundw
        case rel => exact ⟨k + 1, bc, mc, dc, bk, mk, dk, bd, md, dd, by omega, by go_num, by rw [← HST.out]; exact hM9, fun k hk => ⟨(hn5 k hk).1, by simpa using Nat.lt_of_lt_of_le (hn5 k hk).2 h57⟩, o9, re7.keeps hk9 (by omega), hb9⟩
        case measure => simp [intOf]; omega
      · go_simp
        have ba := below_alloc u0 (.cells #[.slice none 0 0, .slice none 0 0, .slice none 0 0] 31)
        have oz := ObjAt.new u0 #[.slice none 0 0, .slice none 0 0, .slice none 0 0] 31
        have hb6 := hd0.trans (ba.mono hd0.size)
        refine hK'.out _ _ (HSX _ hb6) (fun hHeld => ?_)
        clear hK' K'
        try simp only [gA, gB, gC, Act.put, gD, gE, gF]
        generalize u0.alloc (.cells #[.slice none 0 0, .slice none 0 0, .slice none 0 0] 31) = w6 at *
        have hle := hd0.size
        refine wpAnyH_ready (rs := [5]) (by kernel_rfl) (by simp) ?_
        refine AllReadyH.cons (o := _) rfl (fun K' hK' => ?_) AllReadyH.nil
        go_simp
        go_at_call 18
        refine (HA w6 hb6).mono ?_
        rintro e w5 ⟨bc, mc, dc, bk, mk, dk, bd, md, dd, rfl, hM5, hl5, hx5⟩
        have hb5 := hb6.trans (hx5.mono hb6.size)
        have hn5 : ∀ k, (At bc k ∨ At bk k ∨ At bd k) → w.heap.size ≤ k ∧ k < w5.heap.size := fun k hk => (hl5 k hk).elim (fun h => ⟨(hnw k h).1, Nat.lt_of_lt_of_le (hnw k h).2 hb5.size⟩) (fun h => ⟨Nat.le_trans hb.size (Nat.le_trans hb6.size h.1), h.2⟩)
        clear hl5
        dsimp only
        refine hK'.out _ _ (HSX _ hb5) (fun hHeld => ?_)
        clear hK' K'
        try simp only [gA, gB, gC, Act.put, gD, gE, gF]
        first | (refine tR (i := 6) rfl rfl ?_) | (refine tL (i := 6) (v := ?vi11) rfl ?hyi11 ?ri11; case hyi11 => (rintro w' hS; obtain ⟨hs0, hs1, hs2, hs3⟩ := hS; go_simp; try with_reducible rfl))
        try simp only [gA, gB, gC, Act.put, gD, gE, gF]
        first | (refine tR (i := 7) rfl rfl ?_) | (refine tL (i := 7) (v := ?vi12) rfl ?hyi12 ?ri12; case hyi12 => (rintro w' hS; obtain ⟨hs0, hs1, hs2, hs3⟩ := hS; go_simp; try with_reducible rfl))
        try simp only [gA, gB, gC, Act.put, gD, gE, gF]
        first | (refine tR (i := 8) rfl rfl ?_) | (refine tL (i := 8) (v := ?vi13) rfl ?hyi13 ?ri13; case hyi13 => (rintro w' hS; obtain ⟨hs0, hs1, hs2, hs3⟩ := hS; go_simp; try with_reducible rfl))
        try simp only [gA, gB, gC, Act.put, gD, gE, gF]
        first | (refine tR (i := 9) rfl rfl ?_) | (refine tL (i := 9) (v := ?vi14) rfl ?hyi14 ?ri14; case hyi14 => (rintro w' hS; obtain ⟨hs0, hs1, hs2, hs3⟩ := hS; go_simp; try with_reducible rfl))
        try simp only [gA, gB, gC, Act.put, gD, gE, gF]
        have oz5 := oz.below hx5 oz.lt
        have hM6 := hM5
        have y0 := oz5.cell 0 rfl; have y1 := oz5.cell 1 rfl; have y2 := oz5.cell 2 rfl; have f0 := oz5.free 0; have f1' := oz5.free 1; have f2 := oz5.free 2
        have o7 := ((oz5.set 0 (.slice bc mc dc)).set 1 (.slice bk mk dk)).set 2 (.slice bd md dd)
        have hb7 := ((hb5.setCell (p := ⟨u0.heap.size, 0, none⟩) hle (.slice bc mc dc)).setCell (p := ⟨u0.heap.size, 1, none⟩) hle (.slice bk mk dk)).setCell (p := ⟨u0.heap.size, 2, none⟩) hle (.slice bd md dd)
        have hk7 := (((Keeps.refl (fun b => b = u0.heap.size) w5).setCell (x := ⟨u0.heap.size, 0, none⟩) rfl (.slice bc mc dc)).setCell (x := ⟨u0.heap.size, 1, none⟩) rfl (.slice bk mk dk)).setCell (x := ⟨u0.heap.size, 2, none⟩) rfl (.slice bd md dd)
        refine wpAnyH_ready (rs := [11]) (by kernel_rfl) (by simp) ?_
        refine AllReadyH.cons (o := _) rfl (fun K' hK' => ?_) AllReadyH.nil
        go_simp
        refine hK'.out _ _ (HSX _ hb7) (fun hHeld => ?_)
        clear hK' K'
        try simp only [gA, gB, gC, Act.put]
        have hM7 := hM6.obj oz5 (by intro v hv; simp at hv; rcases hv with rfl | rfl | rfl <;> (intro n c; cases c)) hk7
        generalize hw7 : (((w5.setCell ⟨u0.heap.size, 0, none⟩ (.slice bc mc dc)).setCell ⟨u0.heap.size, 1, none⟩ (.slice bk mk dk)).setCell ⟨u0.heap.size, 2, none⟩ (.slice bd md dd)) = w7 at *
        have h57 : w5.heap.size ≤ w7.heap.size := hk7.size
        first | (refine tR (i := 12) rfl rfl ?_) | (refine tL (i := 12) (v := ?vi15) rfl ?hyi15 ?ri15; case hyi15 => (rintro w' hS; obtain ⟨hs0, hs1, hs2, hs3⟩ := hS; go_simp; try with_reducible rfl))
        try simp only [gA, gB, gC, Act.put, gD, gE, gF]
        first | (refine tR (i := 13) rfl rfl ?_) | (refine tL (i := 13) (v := ?vi16) rfl ?hyi16 ?ri16; case hyi16 => (rintro w' hS; obtain ⟨hs0, hs1, hs2, hs3⟩ := hS; go_simp; try with_reducible rfl))
        try simp only [gA, gB, gC, Act.put, gD, gE, gF]
        refine wpAnyH_done (by kernel_rfl) ?_ _
        have hB7 := hb.trans (hb7.mono hb.size)
        have e0 := o7.cell 0 rfl; have e1 := o7.cell 1 rfl; have e2 := o7.cell 2 rfl
        have re7 := hre _ hb7
        have om := om0 _ hb7; have p0 := om.cell 0 rfl; have p1 := om.cell 1 rfl; have p2 := om.cell 2 rfl; have q0 := om.free 0; have q1 := om.free 1; have q2 := om.free 2
        clear hb7 hk7 o7 hM5 hM6 hHeld y0 y1 y2 f0 f1' f2 hb6 hb5 hd0 hx5 oz ba
        go_wp2
        have hk9 := (((Keeps.refl (fun b => b = w.heap.size + 1) w7).setCell (x := ⟨w.heap.size + 1, 0, none⟩) rfl (.slice bc mc dc)).setCell (x := ⟨w.heap.size + 1, 1, none⟩) rfl (.slice bk mk dk)).setCell (x := ⟨w.heap.size + 1, 2, none⟩) rfl (.slice bd md dd)
        have o9 := ((om.set 0 (.slice bc mc dc)).set 1 (.slice bk mk dk)).set 2 (.slice bd md dd)
        have hb9 := ((hB7.setCell (p := ⟨w.heap.size + 1, 0, none⟩) (Nat.le_succ _) (.slice bc mc dc)).setCell (p := ⟨w.heap.size + 1, 1, none⟩) (Nat.le_succ _) (.slice bk mk dk)).setCell (p := ⟨w.heap.size + 1, 2, none⟩) (Nat.le_succ _) (.slice bd md dd)
        have hM9 := hM7.obj om (by intro v hv; simp at hv; rcases hv with rfl | rfl | rfl <;> (intro n c; cases c)) hk9
        go_roundw
        case rel => exact ⟨k + 1, bc, mc, dc, bk, mk, dk, bd, md, dd, by omega, by go_num, by rw [← HST.out]; exact hM9, fun k hk => ⟨(hn5 k hk).1, by simpa using Nat.lt_of_lt_of_le (hn5 k hk).2 h57⟩, o9, re7.keeps hk9 (by omega), hb9⟩
        case measure => simp [intOf]; omega
    · obtain rfl : n = k := by omega
      have e0 : L.take n = L := List.take_of_length_le (by omega)
      rw [e0] at hM
      have p0 := ho.cell 0 rfl; have p1 := ho.cell 1 rfl; have p2 := ho.cell 2 rfl; have y0 := hr.cell 0 rfl; have y1 := hr.cell 1 rfl; have y2 := hr.cell 2 rfl; have q0 := hr.free 0; have q1 := hr.free 1; have q2 := hr.free 2
      go_wp2
      have o9 := ((hr.set 0 (.slice ac nc cc)).set 1 (.slice ak nk ck)).set 2 (.slice ad nd cd)
      have r0' := o9.cell 0 rfl; have r1' := o9.cell 1 rfl; have r2' := o9.cell 2 rfl
      have hk9 := (((Keeps.refl (fun b => b = w.heap.size) wr).setCell (x := ⟨w.heap.size, 0, none⟩) rfl (.slice ac nc cc)).setCell (x := ⟨w.heap.size, 1, none⟩) rfl (.slice ak nk ck)).setCell (x := ⟨w.heap.size, 2, none⟩) rfl (.slice ad nd cd)
      have hb9 := ((hb.setCell (p := ⟨w.heap.size, 0, none⟩) (Nat.le_refl _) (.slice ac nc cc)).setCell (p := ⟨w.heap.size, 1, none⟩) (Nat.le_refl _) (.slice ak nk ck)).setCell (p := ⟨w.heap.size, 2, none⟩) (Nat.le_refl _) (.slice ad nd cd)
      have hM9 := hM.obj hr (by intro v hv; simp at hv; rcases hv with rfl | rfl | rfl <;> (intro n c; cases c)) hk9
      exact bodyPost_ret (v := .agg #[.slice ac nc cc, .slice ak nk ck, .slice ad nd cd]) (by simp [results, Tryz.results29, go_sem, r0', r1', r2']) rfl ⟨_, _, _, _, _, _, _, _, _, rfl, hM9, fun k hk => ⟨(hnw k hk).1, by simpa using (hnw k hk).2⟩, hb9⟩
end Go.Proofs.YtaodjnkjjmhecaaGreatDoor
