/- Contracts and plain words that the laws' proofs stand on. -/
import Derived.Test.YtaodjnkjjmhecaaGreatDoorShort
import Derived.Test.YtaodjnkjjmhecaaGreatDoorEvRight
namespace Go.Proofs.YtaodjnkjjmhecaaGreatDoor
open Go.RowKit
set_option linter.unusedVariables false
set_option linter.unusedSimpArgs false
abbrev OTb (w : World) : Prop := PTab Tryz.prog w
theorem OTb.below {w w' : World} (h : OTb w) (hb : Below w.heap.size w w') : OTb w' := PTab.below h hb
theorem apply_no {m : MapN} {e : EventN} (h : rightE e = false) : applyM m e = (m, false, 1) := by unfold applyM; rw [if_pos h]
theorem apply_had {m : MapN} {e : EventN} (h : rightE e = true) (h2 : hasV m.ctx e.dot = true) : applyM m e = (m, false, 0) := by unfold applyM; rw [if_neg (by rw [h]; decide), if_pos h2]
theorem apply_gap {m : MapN} {e : EventN} (h : rightE e = true) (h2 : hasV m.ctx e.dot = false) (h3 : ¬ getV m.ctx e.dot.dev e.dot.inc + 1 = e.dot.seq) : applyM m e = (m, false, 6) := by unfold applyM; rw [if_neg (by rw [h]; decide), if_neg (by rw [h2]; decide), if_pos h3]
theorem apply_full {m : MapN} {e : EventN} (h : rightE e = true) (h2 : hasV m.ctx e.dot = false) (h3 : getV m.ctx e.dot.dev e.dot.inc + 1 = e.dot.seq) (h4 : 2048 ≤ m.kept.length) : applyM m e = (m, false, 9) := by unfold applyM; rw [if_neg (by rw [h]; decide), if_neg (by rw [h2]; decide), if_neg (by rw [h3]; simp), if_pos h4]
theorem apply_put {m : MapN} {e : EventN} (h : rightE e = true) (h2 : hasV m.ctx e.dot = false) (h3 : getV m.ctx e.dot.dev e.dot.inc + 1 = e.dot.seq) (h4 : ¬ 2048 ≤ m.kept.length) : applyM m e = (⟨setV m.ctx e.dot, insE m.kept e, sortD (m.dead ++ e.over)⟩, true, 0) := by unfold applyM; rw [if_neg (by rw [h]; decide), if_neg (by rw [h2]; decide), if_neg (by rw [h3]; simp), if_neg h4]
theorem sort_self {l : List DotN} (h : SortedD l) : sortD l = l := sorted_unique (sortD_sorted l) h fun x => sortD_mem l x
theorem sort_more (D L : List DotN) (x : DotN) : sortD (sortD (D ++ L) ++ [x]) = sortD (D ++ (L ++ [x])) :=
  sorted_unique (sortD_sorted _) (sortD_sorted _) fun y => by
    simp only [sortD_mem, List.mem_append, List.mem_singleton, or_assoc]
theorem nodup_most0 {α : Type} : ∀ {l m : List α}, l.Nodup → (∀ x ∈ l, x ∈ m) → l.length ≤ m.length := by
  classical
  exact fun {l m} h hs => by
    letI : BEq α := instBEqOfDecidableEq
    exact nodup_most h hs
theorem sort_len (l : List DotN) : (sortD l).length ≤ l.length := nodup_most0 (sortedD_nodup (sortD_sorted l)) fun x hx => (sortD_mem l x).1 hx
theorem Real.ctx {w w' : World} {p : Nat} {B : Slots} {rs : List EvR} {m : MapN} (h : Real w p B rs m) {mv : Option Nat} {l : List DotN} (hv : VecIn w' p 0 ((cellsB B).set 0 (.map mv)) mv l) (hk : Keeps (fun b => b = p ∨ B .ctx = some b) w w') (hmv : mv = B .ctx ∨ ∃ b, mv = some b ∧ w.heap.size ≤ b) (hd : ∀ e ∈ m.kept, e.dot.seq ≤ getV l e.dot.dev e.dot.inc) :
    ∃ B', Step w w' p B rs B' rs ⟨l, m.kept, m.dead⟩ := by
  obtain ⟨B', hB1, hB2⟩ := slots_put B .ctx mv
  have hc : cellsB B' = (cellsB B).set 0 (.map mv) := by
    unfold cellsB
    rw [hB1, hB2 .kept (fun q => by cases q), hB2 .dead (fun q => by cases q), hB2 .keys (fun q => by cases q)]
    rfl
  have hP := h.parts
  have hP2 := hP.set .ctx (fun k q => by cases q) (rs' := rs) (c' := l) (E' := m.dead) hB2 hk (hc ▸ hv.obj) (fun b e => by
    rw [hB1] at e
    rcases hmv with c | ⟨b', c, c2⟩
    · exact .inl (c ▸ e)
    · rw [c] at e
      cases e
      exact .inr c2) (fun _ => rfl) (fun c => absurd rfl c) (fun _ => rfl) (by
    show NumsIs w' (B' .ctx) (fun b => B' .ctx = some b) l
    rw [hB1]
    exact hv.nums) (fun r hr => over_keeps (h.over r hr) hk fun k hk1 hc1 => hP.over_apart r hr k hk1 (hc1.imp id fun c => ⟨_, c⟩))
  refine ⟨B', ⟨Parts.real (m := ⟨l, m.kept, m.dead⟩) hP2 (fun _ => rfl) (fun k e => (hB2 _ (fun q => by cases q)).trans (h.nothing k e)) h.rs ⟨⟨hv.ok, h.ok.ok.kept, hd⟩, h.ok.right, h.ok.dead, h.ok.rdead⟩ h.few h.light, hk.mono fun k _ c => c.imp id fun c => ⟨_, c⟩, fun i b e => ?_, fun k c => .inl c⟩⟩
  by_cases q : i = .ctx
  · rw [q, hB1] at e
    rcases hmv with c | ⟨b', c, c2⟩
    · exact .inl ⟨.ctx, c ▸ e⟩
    · rw [c] at e
      cases e
      exact .inr c2
  · rw [hB2 i q] at e
    exact .inl ⟨i, e⟩
set_option maxRecDepth 100000 in
set_option maxHeartbeats 4000000 in
theorem mApplyI {w : World} {p : Nat} {B : Slots} {rs : List EvR} {m : MapN} (h : Real w p B rs m) (r : EvR) (A : Array Value) (hA : (encE r).toArray = A) (hE : RowOf encD 3 w r.a r.e.over.length r.c r.e.over) (hF : ∀ k, At (overA r) k → ¬ OwnB p B k) (hl : lightE r.e = true) (hTb : OTb w) (hdn : m.dead.length ≤ 900000) :
    Calls Tryz.prog 19 #[.pointer (some ⟨p, 0, none⟩), .agg A] w fun e w' => e = .returned (.tuple #[.bool (applyM m r.e).2.1, .int .i64 (applyM m r.e).2.2]) ∧ ∃ B' rs', Step w w' p B rs B' rs' (applyM m r.e).1 := by
  have zA : A.size = 19 := by rw [← hA]; rfl
  have hi0 : A.toList[0]? = some (.int .i64 r.e.dot.dev) := by rw [← hA]; rfl
  have hi1 : A.toList[1]? = some (.int .i64 r.e.dot.inc) := by rw [← hA]; rfl
  have hi2 : A.toList[2]? = some (.int .i64 r.e.dot.seq) := by rw [← hA]; rfl
  have hi18 : A.toList[18]? = some (.slice r.a r.e.over.length r.c) := by rw [← hA]; rfl
  obtain ⟨be, hbe⟩ : ∃ be, w.heap.size = be := ⟨_, rfl⟩
  have oE := ObjAt.new w A 43
  have b1 := below_alloc w (.cells A 43)
  have h1 := h.below b1
  have hE1 := hE.below b1
  have hTb1 := hTb.below b1
  have hpe : p ≠ be := by have := h.obj.lt; omega
  have hce : B .ctx ≠ some be := fun e => by have := (h.blk .ctx be e).lt; omega
  have hlp := h.obj.lt
  rw [hbe] at oE
  generalize hw1 : w.alloc (.cells A 43) = w1 at *
  have lE := oE.lt
  have HR := fun v (hv : Below w1.heap.size w1 v) => eventRightC0 r.e r.a r.e.over.length r.c v (hE1.below hv) hl (hTb1.below hv)
  rw [show (#[.int .i64 r.e.dot.dev, .int .i64 r.e.dot.inc, .int .i64 r.e.dot.seq, .int .i64 r.e.stamp.wall, .int .i64 r.e.stamp.count, .int .i64 r.e.stamp.dev, .int .i64 r.e.kind, .string (str r.e.item.name), .string (str r.e.item.dom), .string (str r.e.item.path), .string (str r.e.item.val), .bool r.e.item.host, .bool r.e.item.sec, .bool r.e.item.http, .bool r.e.item.pers, .int .i64 r.e.item.exp, .int .i64 r.e.item.made, .int .i64 r.e.item.used, .slice r.a r.e.over.length r.c] : Array Value) = A from hA] at HR
  cases hrt : rightE r.e with
  | false =>
    have hpl := Lib.hid (apply_no (m := m) hrt)
    rw [hrt] at HR
    clear hrt
    go_enter Tryz.func19, Tryz.ntmps19
    go_wp2_with (first | (refine wpList_loadAll rfl 43 _ rfl be 19 A rfl oE Tryz.isAgg43 Tryz.sizeOf43 zA ?_) | (go_at_call 67; (with_reducible refine (HR _ (Below.refl _ _)).mono ?_); rintro e w2 ⟨rfl, hx2⟩; have o2 := oE.below hx2 lE; have y0 := o2.cell 0 hi0; have y1 := o2.cell 1 hi1; have y2 := o2.cell 2 hi2))
    go_ret2
    refine ⟨?_, B, rs, ?_⟩
    · first | (rw [hpl.out]; rfl) | (rw [hpl.out])
    · rw [hpl.out]
      exact Step.refl h (b1.trans (hx2.mono b1.size))
  | true =>
  have hx := right_fitD (right_dotE hrt)
  have HH := fun v (hv : Below w1.heap.size w1 v) => mHasA ((h1.below hv).arg) r.e.dot hx
  rw [hrt] at HR
  obtain ⟨dev, hdev⟩ : ∃ d, r.e.dot.dev = d := ⟨_, rfl⟩
  obtain ⟨inc, hinc⟩ : ∃ d, r.e.dot.inc = d := ⟨_, rfl⟩
  obtain ⟨seq, hseq⟩ : ∃ d, r.e.dot.seq = d := ⟨_, rfl⟩
  rw [hdev] at hi0; rw [hinc] at hi1; rw [hseq] at hi2
  simp only [hdev, hinc, hseq] at HH
  have hSb : ∀ v, Below w1.heap.size w1 v → v.cell? ⟨be, 0, none⟩ = some (.int .i64 dev) ∧ v.cell? ⟨be, 1, none⟩ = some (.int .i64 inc) ∧ v.cell? ⟨be, 2, none⟩ = some (.int .i64 seq) := fun v hv => ⟨(oE.below hv lE).cell 0 hi0, (oE.below hv lE).cell 1 hi1, (oE.below hv lE).cell 2 hi2⟩
  cases hhv : hasV m.ctx r.e.dot with
  | true =>
    have hpl := Lib.hid (apply_had hrt hhv)
    rw [hhv] at HH
    clear hhv hrt hdev hinc hseq
    go_enter Tryz.func19, Tryz.ntmps19
    go_wp2_with (first | (refine wpList_loadAll rfl 43 _ rfl be 19 A rfl oE Tryz.isAgg43 Tryz.sizeOf43 zA ?_) | (go_at_call 67; (with_reducible refine (HR _ (Below.refl _ _)).mono ?_); rintro e w2 ⟨rfl, hx2⟩; have o2 := oE.below hx2 lE; have y0 := o2.cell 0 hi0; have y1 := o2.cell 1 hi1; have y2 := o2.cell 2 hi2) | (go_at_call 36; (with_reducible refine (HH _ hx2).mono ?_); rintro e w3 ⟨rfl, hx3⟩; have hb := hx2.trans (hx3.mono hx2.size)))
    go_ret2
    refine ⟨?_, B, rs, ?_⟩
    · first | (rw [hpl.out]; rfl) | (rw [hpl.out])
    · rw [hpl.out]
      exact Step.refl h (b1.trans (hb.mono b1.size))
  | false =>
  have hq := getV_range h.ok.ok.ctx dev inc
  have hg1 : IntKind.i64.wrap (getV m.ctx dev inc + 1) = getV m.ctx dev inc + 1 := by rw [IntKind.wrap_i64]; omega
  have hfd : is64 dev := hdev ▸ hx.dev
  have hfi : is64 inc := hinc ▸ hx.inc
  have HG := fun v (hv : Below w1.heap.size w1 v) => vGetA (h1.below hv).vec.arg dev inc hfd hfi
  rw [hhv] at HH
  obtain ⟨G, hG⟩ : ∃ G, getV m.ctx dev inc = G := ⟨_, rfl⟩
  rw [hG] at hg1 HG
  by_cases hsq : G + 1 = seq
  · subst hsq
    have HO := fun v (hv : Below w1.heap.size w1 v) => mRoomA 1 (h1.below hv) (by omega)
    have hsq' : getV m.ctx r.e.dot.dev r.e.dot.inc + 1 = r.e.dot.seq := by rw [hdev, hinc, hseq, hG]
    by_cases hfull : 2048 ≤ m.kept.length
    · have hpl := Lib.hid (apply_full hrt hhv hsq' hfull)
      have hdf : decide (((m.kept.length : Nat) : Int) + 1 ≤ 2048) = false := decide_eq_false (by omega)
      rw [hdf] at HO
      clear hhv hrt hdev hinc hseq hsq' hdf hfull hq
      go_enter Tryz.func19, Tryz.ntmps19
      go_wp2_with (first | (refine wpList_loadAll rfl 43 _ rfl be 19 A rfl oE Tryz.isAgg43 Tryz.sizeOf43 zA ?_) | (go_at_call 67; (with_reducible refine (HR _ (Below.refl _ _)).mono ?_); rintro e w2 ⟨rfl, hx2⟩; have o2 := oE.below hx2 lE; have y0 := o2.cell 0 hi0; have y1 := o2.cell 1 hi1; have y2 := o2.cell 2 hi2) | (go_at_call 36; (with_reducible refine (HH _ hx2).mono ?_); rintro e w3 ⟨rfl, hx3⟩; have hb := hx2.trans (hx3.mono hx2.size)))
      have hb := hb.drew
      refine wp_region_held_drew (S := fun w' => w'.cell? ⟨be, 0, none⟩ = some (.int .i64 dev) ∧ w'.cell? ⟨be, 1, none⟩ = some (.int .i64 inc) ∧ w'.cell? ⟨be, 2, none⟩ = some (.int .i64 (G + 1))) (by kernel_rfl) (hSb _ hb) (fun hHeld => ?_)
      first | (refine tR (i := 0) rfl rfl ?_) | (refine tL (i := 0) (v := ?vb6) rfl ?hyb6 ?rb6; case hyb6 => (rintro w' hS; obtain ⟨hs0, hs1, hs2⟩ := hS; go_simp; try with_reducible rfl))
      try simp only [gA, gB, Act.put, gD, gE, gF]
      first | (refine tR (i := 1) rfl rfl ?_) | (refine tL (i := 1) (v := ?vb7) rfl ?hyb7 ?rb7; case hyb7 => (rintro w' hS; obtain ⟨hs0, hs1, hs2⟩ := hS; go_simp; try with_reducible rfl))
      try simp only [gA, gB, gC, Act.put, gD, gE, gF]
      first | (refine tR (i := 2) rfl rfl ?_) | (refine tL (i := 2) (v := ?vb8) rfl ?hyb8 ?rb8; case hyb8 => (rintro w' hS; obtain ⟨hs0, hs1, hs2⟩ := hS; go_simp; try with_reducible rfl))
      try simp only [gA, gB, gC, Act.put, gD, gE, gF]
      first | (refine tR (i := 3) rfl rfl ?_) | (refine tL (i := 3) (v := ?vb9) rfl ?hyb9 ?rb9; case hyb9 => (rintro w' hS; obtain ⟨hs0, hs1, hs2⟩ := hS; go_simp; try with_reducible rfl))
      try simp only [gA, gB, gC, Act.put, gD, gE, gF]
      first | (refine tR (i := 4) rfl rfl ?_) | (refine tL (i := 4) (v := ?vb10) rfl ?hyb10 ?rb10; case hyb10 => (rintro w' hS; obtain ⟨hs0, hs1, hs2⟩ := hS; go_simp; try with_reducible rfl))
      try simp only [gA, gB, gC, Act.put, gD, gE, gF]
      first | (refine tR (i := 5) rfl rfl ?_) | (refine tL (i := 5) (v := ?vb11) rfl ?hyb11 ?rb11; case hyb11 => (rintro w' hS; obtain ⟨hs0, hs1, hs2⟩ := hS; go_simp; try with_reducible rfl))
      try simp only [gA, gB, gC, Act.put, gD, gE, gF]
      first | (refine tR (i := 6) rfl rfl ?_) | (refine tL (i := 6) (v := ?vb12) rfl ?hyb12 ?rb12; case hyb12 => (rintro w' hS; obtain ⟨hs0, hs1, hs2⟩ := hS; go_simp; try with_reducible rfl))
      try simp only [gA, gB, gC, Act.put, gD, gE, gF]
      first | (refine tR (i := 7) rfl rfl ?_) | (refine tL (i := 7) (v := ?vb13) rfl ?hyb13 ?rb13; case hyb13 => (rintro w' hS; obtain ⟨hs0, hs1, hs2⟩ := hS; go_simp; try with_reducible rfl))
      try simp only [gA, gB, gC, Act.put, gD, gE, gF]
      first | (refine tR (i := 8) rfl rfl ?_) | (refine tL (i := 8) (v := ?vb14) rfl ?hyb14 ?rb14; case hyb14 => (rintro w' hS; obtain ⟨hs0, hs1, hs2⟩ := hS; go_simp; try with_reducible rfl))
      try simp only [gA, gB, gC, Act.put, gD, gE, gF]
      refine wpAnyH_ready (rs := [9]) (by kernel_rfl) (by simp) ?_
      refine AllReadyH.cons (o := _) rfl (fun K hK => ?_) AllReadyH.nil
      go_simp
      go_at_call 68; (with_reducible refine (HG _ hb).mono ?_); rintro e w4 ⟨rfl, hx⟩; have hb := hb.trans (hx.mono hb.size); clear hx
      try dsimp only
      refine hK.out _ _ (hSb _ hb) (fun hHeld => ?_)
      clear hK K
      try simp only [gA, gB, gC, Act.put, gD, gE, gF]
      first | (refine tR (i := 10) rfl rfl ?_) | (refine tL (i := 10) (v := ?vb15) rfl ?hyb15 ?rb15; case hyb15 => (rintro w' hS; obtain ⟨hs0, hs1, hs2⟩ := hS; go_simp; try with_reducible rfl))
      try simp only [gA, gB, gC, Act.put, gD, gE, gF]
      first | (refine tR (i := 11) rfl rfl ?_) | (refine tL (i := 11) (v := ?vb16) rfl ?hyb16 ?rb16; case hyb16 => (rintro w' hS; obtain ⟨hs0, hs1, hs2⟩ := hS; go_simp; try with_reducible rfl))
      try simp only [gA, gB, gC, Act.put, gD, gE, gF]
      first | (refine tR (i := 12) rfl rfl ?_) | (refine tL (i := 12) (v := ?vb17) rfl ?hyb17 ?rb17; case hyb17 => (rintro w' hS; obtain ⟨hs0, hs1, hs2⟩ := hS; go_simp; try with_reducible rfl))
      try simp only [gA, gB, gC, Act.put, gD, gE, gF]
      refine wpAnyH_done (by kernel_rfl) ?_ _
      go_wp2_with (go_at_call 47; (with_reducible refine (HO _ hb).mono ?_); rintro e w5 ⟨rfl, hx5⟩; have hb := hb.trans (hx5.mono hb.size); clear hx5)
      go_ret2
      refine ⟨?_, B, rs, ?_⟩
      · first | (rw [hpl.out]; rfl) | (rw [hpl.out])
      · rw [hpl.out]
        exact Step.refl h (b1.trans (hb.mono b1.size))
    · have hapl := apply_put hrt hhv hsq' hfull
      have hdf : decide (((m.kept.length : Nat) : Int) + 1 ≤ 2048) = true := decide_eq_true (by omega)
      rw [hdf] at HO
      have hTK : takeV m.ctx r.e.dot = (setV m.ctx r.e.dot, true) := by unfold takeV; rw [if_pos ⟨right_dotE hrt, hsq'⟩]
      have HT := fun v (hv : Below w1.heap.size w1 v) => vTakeI p 0 (cellsB B) (B .ctx) m.ctx r.e.dot v (h1.below hv).vec hx
      unfold RaisedI at HT
      simp only [hTK, hdev, hinc, hseq] at HT
      have hset := fun d i => getV_set h.ok.ok.ctx.ord r.e.dot d i
      have hdots := h.ok.ok.dots
      have hmono : ∀ e ∈ m.kept, e.dot.seq ≤ getV (setV m.ctx r.e.dot) e.dot.dev e.dot.inc := fun e he => by
        rw [hset]
        have h2 := hdots e he
        split
        · rename_i c
          rw [← c.1, ← c.2] at h2
          omega
        · exact h2
      have hself : r.e.dot.seq ≤ getV (setV m.ctx r.e.dot) r.e.dot.dev r.e.dot.inc := by
        rw [hset, if_pos ⟨rfl, rfl⟩]
        exact Int.le_refl _
      have hnew : ∀ e ∈ m.kept, e.dot ≠ r.e.dot := fun e he c => by
        have h2 := hdots e he
        rw [c] at h2
        omega
      have hov := right_overE hrt
      have hlov : r.e.over.length ≤ 100 := by
        unfold lightE at hl
        simp only [Bool.and_eq_true, decide_eq_true_eq] at hl
        exact hl.1
      have hself0 := sort_self h.ok.dead
      have hkl : m.kept.length < 2048 := by omega
      have hpl := Lib.hid hapl
      have hSq := Lib.hid hself
      have hNew := Lib.hid hnew
      have hMono := Lib.hid hmono
      have hrt2 := Lib.hid hrt
      clear hapl hhv hrt hdev hinc hseq hsq' hdf hfull hq hset hdots hmono hself hnew hTK HG
      go_enter Tryz.func19, Tryz.ntmps19
      go_wp2_with (first | (refine wpList_loadAll rfl 43 _ rfl be 19 A rfl oE Tryz.isAgg43 Tryz.sizeOf43 zA ?_) | (go_at_call 67; (with_reducible refine (HR _ (Below.refl _ _)).mono ?_); rintro e w2 ⟨rfl, hx2⟩; have o2 := oE.below hx2 lE; have y0 := o2.cell 0 hi0; have y1 := o2.cell 1 hi1; have y2 := o2.cell 2 hi2) | (go_at_call 36; (with_reducible refine (HH _ hx2).mono ?_); rintro e w3 ⟨rfl, hx3⟩; have hb := hx2.trans (hx3.mono hx2.size)))
      have HG := fun v (hv : Below w1.heap.size w1 v) => vGetA (h1.below hv).vec.arg dev inc hfd hfi
      rw [hG] at HG
      have hb := hb.drew
      refine wp_region_held_drew (S := fun w' => w'.cell? ⟨be, 0, none⟩ = some (.int .i64 dev) ∧ w'.cell? ⟨be, 1, none⟩ = some (.int .i64 inc) ∧ w'.cell? ⟨be, 2, none⟩ = some (.int .i64 (G + 1))) (by kernel_rfl) (hSb _ hb) (fun hHeld => ?_)
      first | (refine tR (i := 0) rfl rfl ?_) | (refine tL (i := 0) (v := ?vb18) rfl ?hyb18 ?rb18; case hyb18 => (rintro w' hS; obtain ⟨hs0, hs1, hs2⟩ := hS; go_simp; try with_reducible rfl))
      try simp only [gA, gB, Act.put, gD, gE, gF]
      first | (refine tR (i := 1) rfl rfl ?_) | (refine tL (i := 1) (v := ?vb19) rfl ?hyb19 ?rb19; case hyb19 => (rintro w' hS; obtain ⟨hs0, hs1, hs2⟩ := hS; go_simp; try with_reducible rfl))
      try simp only [gA, gB, gC, Act.put, gD, gE, gF]
      first | (refine tR (i := 2) rfl rfl ?_) | (refine tL (i := 2) (v := ?vb20) rfl ?hyb20 ?rb20; case hyb20 => (rintro w' hS; obtain ⟨hs0, hs1, hs2⟩ := hS; go_simp; try with_reducible rfl))
      try simp only [gA, gB, gC, Act.put, gD, gE, gF]
      first | (refine tR (i := 3) rfl rfl ?_) | (refine tL (i := 3) (v := ?vb21) rfl ?hyb21 ?rb21; case hyb21 => (rintro w' hS; obtain ⟨hs0, hs1, hs2⟩ := hS; go_simp; try with_reducible rfl))
      try simp only [gA, gB, gC, Act.put, gD, gE, gF]
      first | (refine tR (i := 4) rfl rfl ?_) | (refine tL (i := 4) (v := ?vb22) rfl ?hyb22 ?rb22; case hyb22 => (rintro w' hS; obtain ⟨hs0, hs1, hs2⟩ := hS; go_simp; try with_reducible rfl))
      try simp only [gA, gB, gC, Act.put, gD, gE, gF]
      first | (refine tR (i := 5) rfl rfl ?_) | (refine tL (i := 5) (v := ?vb23) rfl ?hyb23 ?rb23; case hyb23 => (rintro w' hS; obtain ⟨hs0, hs1, hs2⟩ := hS; go_simp; try with_reducible rfl))
      try simp only [gA, gB, gC, Act.put, gD, gE, gF]
      first | (refine tR (i := 6) rfl rfl ?_) | (refine tL (i := 6) (v := ?vb24) rfl ?hyb24 ?rb24; case hyb24 => (rintro w' hS; obtain ⟨hs0, hs1, hs2⟩ := hS; go_simp; try with_reducible rfl))
      try simp only [gA, gB, gC, Act.put, gD, gE, gF]
      first | (refine tR (i := 7) rfl rfl ?_) | (refine tL (i := 7) (v := ?vb25) rfl ?hyb25 ?rb25; case hyb25 => (rintro w' hS; obtain ⟨hs0, hs1, hs2⟩ := hS; go_simp; try with_reducible rfl))
      try simp only [gA, gB, gC, Act.put, gD, gE, gF]
      first | (refine tR (i := 8) rfl rfl ?_) | (refine tL (i := 8) (v := ?vb26) rfl ?hyb26 ?rb26; case hyb26 => (rintro w' hS; obtain ⟨hs0, hs1, hs2⟩ := hS; go_simp; try with_reducible rfl))
      try simp only [gA, gB, gC, Act.put, gD, gE, gF]
      refine wpAnyH_ready (rs := [9]) (by kernel_rfl) (by simp) ?_
      refine AllReadyH.cons (o := _) rfl (fun K hK => ?_) AllReadyH.nil
      go_simp
      go_at_call 68; (with_reducible refine (HG _ hb).mono ?_); rintro e w4 ⟨rfl, hx⟩; have hb := hb.trans (hx.mono hb.size); clear hx
      try dsimp only
      refine hK.out _ _ (hSb _ hb) (fun hHeld => ?_)
      clear hK K
      try simp only [gA, gB, gC, Act.put, gD, gE, gF]
      first | (refine tR (i := 10) rfl rfl ?_) | (refine tL (i := 10) (v := ?vb27) rfl ?hyb27 ?rb27; case hyb27 => (rintro w' hS; obtain ⟨hs0, hs1, hs2⟩ := hS; go_simp; try with_reducible rfl))
      try simp only [gA, gB, gC, Act.put, gD, gE, gF]
      first | (refine tR (i := 11) rfl rfl ?_) | (refine tL (i := 11) (v := ?vb28) rfl ?hyb28 ?rb28; case hyb28 => (rintro w' hS; obtain ⟨hs0, hs1, hs2⟩ := hS; go_simp; try with_reducible rfl))
      try simp only [gA, gB, gC, Act.put, gD, gE, gF]
      first | (refine tR (i := 12) rfl rfl ?_) | (refine tL (i := 12) (v := ?vb29) rfl ?hyb29 ?rb29; case hyb29 => (rintro w' hS; obtain ⟨hs0, hs1, hs2⟩ := hS; go_simp; try with_reducible rfl))
      try simp only [gA, gB, gC, Act.put, gD, gE, gF]
      refine wpAnyH_done (by kernel_rfl) ?_ _
      go_wp2_with (go_at_call 47; (with_reducible refine (HO _ hb).mono ?_); rintro e w5 ⟨rfl, hx5⟩; have hb := hb.trans (hx5.mono hb.size); clear hx5)
      have hb' := hb.drew
      refine wp_region_held_drew (S := fun w' => w'.cell? ⟨be, 0, none⟩ = some (.int .i64 dev) ∧ w'.cell? ⟨be, 1, none⟩ = some (.int .i64 inc) ∧ w'.cell? ⟨be, 2, none⟩ = some (.int .i64 (G + 1))) (by kernel_rfl) (hSb _ hb') (fun hHeld => ?_)
      first | (refine tR (i := 0) rfl rfl ?_) | (refine tL (i := 0) (v := ?vb1) rfl ?hyb1 ?rb1; case hyb1 => (rintro w' hS; obtain ⟨hs0, hs1, hs2⟩ := hS; go_simp; try with_reducible rfl))
      try simp only [gA, gB, Act.put, gD, gE, gF]
      first | (refine tR (i := 1) rfl rfl ?_) | (refine tL (i := 1) (v := ?vb2) rfl ?hyb2 ?rb2; case hyb2 => (rintro w' hS; obtain ⟨hs0, hs1, hs2⟩ := hS; go_simp; try with_reducible rfl))
      try simp only [gA, gB, gC, Act.put, gD, gE, gF]
      first | (refine tR (i := 2) rfl rfl ?_) | (refine tL (i := 2) (v := ?vb3) rfl ?hyb3 ?rb3; case hyb3 => (rintro w' hS; obtain ⟨hs0, hs1, hs2⟩ := hS; go_simp; try with_reducible rfl))
      try simp only [gA, gB, gC, Act.put, gD, gE, gF]
      first | (refine tR (i := 3) rfl rfl ?_) | (refine tL (i := 3) (v := ?vb4) rfl ?hyb4 ?rb4; case hyb4 => (rintro w' hS; obtain ⟨hs0, hs1, hs2⟩ := hS; go_simp; try with_reducible rfl))
      try simp only [gA, gB, gC, Act.put, gD, gE, gF]
      first | (refine tR (i := 4) rfl rfl ?_) | (refine tL (i := 4) (v := ?vb5) rfl ?hyb5 ?rb5; case hyb5 => (rintro w' hS; obtain ⟨hs0, hs1, hs2⟩ := hS; go_simp; try with_reducible rfl))
      try simp only [gA, gB, gC, Act.put, gD, gE, gF]
      refine wpAnyH_ready (rs := [5]) (by kernel_rfl) (by simp) ?_
      refine AllReadyH.cons (o := _) rfl (fun K hK => ?_) AllReadyH.nil
      go_simp
      go_at_call 69; (with_reducible refine (HT _ hb').mono ?_); rintro e w6 ⟨rfl, mv, hv6, hk6, hmv⟩; have o6 := (oE.below hb' lE).keeps hk6 (fun c => c.elim (fun c => hpe c.symm) (fun c => hce c)); have s6 : w6.cell? ⟨be, 0, none⟩ = some (.int .i64 dev) ∧ w6.cell? ⟨be, 1, none⟩ = some (.int .i64 inc) ∧ w6.cell? ⟨be, 2, none⟩ = some (.int .i64 (G + 1)) := ⟨o6.cell 0 hi0, o6.cell 1 hi1, o6.cell 2 hi2⟩
      try dsimp only
      refine hK.out _ _ (s6) (fun hHeld => ?_)
      clear hK K
      try simp only [gA, gB, gC, Act.put, gD, gE, gF]
      refine wpAnyH_done (by kernel_rfl) ?_ _
      have hv5 := h1.below hb'
      obtain ⟨B2, st2⟩ := Real.ctx hv5 hv6 hk6 hmv hMono.out
      have st0 : Step w w6 p B rs B2 rs ⟨setV m.ctx r.e.dot, m.kept, m.dead⟩ := (Step.refl h (b1.trans (hb'.mono b1.size))).trans st2
      clear hv5 hv6 hk6 hmv st2 hb hb' hSb HT HO HH HR HG hx2 hx3 o2 y0 y1 y2 s6 hHeld
      have hE6 := over_keeps hE st0.keeps hF
      have HKp := mKeepI st0.real r A hA hE6 hl hrt2.out hNew.out hkl hSq.out
      dsimp only at HKp
      have hoff : ∀ (v : World) B' rs' m', Real v p B' rs' m' → ObjAt v be A.toList → ¬ OwnB p B' be := fun v B' rs' m' hR hO hc => by
        rcases hc with hc | ⟨i, hc⟩
        · exact hpe hc.symm
        · exact (hR.blk i be hc).not_obj hO rfl
      have oE6 := o6
      clear o6
      go_wp2_with (first | (refine wpList_loadAll rfl 43 _ rfl be 19 A rfl oE6 Tryz.isAgg43 Tryz.sizeOf43 zA ?_) | (go_at_call 70; (with_reducible refine HKp.mono ?_); rintro e w7 ⟨rfl, B3, q, hqe, st7⟩; have o7 := oE6.keeps st7.keeps (hoff _ _ _ _ st0.real oE6); have y18 := o7.cell 18 hi18))
      have st07 := st0.trans st7
      clear st0 st7 HKp oE6 hoff hMono hNew hSq o7 hTb1 hTb oE b1 h1 hE1
      go_loopw [49] (fun i wr => ∃ (k : Nat) (B4 : Slots), k ≤ r.e.over.length ∧ i = .int .i64 (k : Int) ∧ Step w wr p B rs B4 (insR rs q) ⟨setV m.ctx r.e.dot, insE m.kept r.e, sortD (m.dead ++ r.e.over.take k)⟩) (fun i _ => r.e.over.length - (intOf i).toNat)
      case atStart => exact ⟨0, B3, Nat.zero_le _, rfl, by rw [List.take_zero, List.append_nil, hself0]; exact st07⟩
      case round =>
        clear st07
        obtain ⟨k, B4, hk, rfl, st⟩ := hrel
        have hEr := over_keeps hE st.keeps hF
        have hcm := hEr.capm
        have hcl := hEr.cle
        unfold maxLen at hcm
        by_cases hlt : k < r.e.over.length
        · have hlt' : (k : Int) < (r.e.over.length : Int) := by omega
          obtain ⟨x, g, off, hxk, hra, u0, u1, u2⟩ := dot_at hEr k hlt
          have hxr := hov x (List.mem_of_getElem? hxk)
          have hbd := below_alloc wr (.cells #[.int .i64 x.dev, .int .i64 x.inc, .int .i64 x.seq] 35)
          have od := ObjAt.new wr #[.int .i64 x.dev, .int .i64 x.inc, .int .i64 x.seq] 35
          have z0 := od.cell 0 rfl; have z1 := od.cell 1 rfl; have z2 := od.cell 2 rfl
          have HKl := mKillI (st.real.below hbd) x hxr (by have := sort_len (m.dead ++ r.e.over.take k); rw [List.length_append, List.length_take] at this; dsimp only; omega)
          have st8 := st.trans (Step.refl st.real hbd)
          have htk : r.e.over.take (k + 1) = r.e.over.take k ++ [x] := take_snocI hxk
          clear hEr od
          go_wp2_with (go_at_call 71; (with_reducible refine HKl.mono ?_); rintro e w8 ⟨rfl, B5, st9⟩)
          go_roundw
          case rel =>
            refine ⟨_, _, _, _, _, _, _, _, _, ⟨k + 1, B5, by omega, by go_num, ?_⟩, (by rw [hra]; rfl)⟩
            have h9 := st8.trans st9
            rw [show killM ⟨setV m.ctx r.e.dot, insE m.kept r.e, sortD (m.dead ++ r.e.over.take k)⟩ x = ⟨setV m.ctx r.e.dot, insE m.kept r.e, sortD (m.dead ++ r.e.over.take (k + 1))⟩ from by unfold killM; rw [sort_more, ← htk]] at h9
            exact h9
          case measure => simp [intOf]; omega
        · obtain rfl : k = r.e.over.length := by omega
          go_wp2
          go_ret2
          refine ⟨?_, B4, insR rs q, ?_⟩
          · first | (rw [hpl.out]; rfl) | (rw [hpl.out])
          · rw [hpl.out]
            rw [List.take_of_length_le (Nat.le_refl _)] at st
            exact st
  · have hpl := Lib.hid (apply_gap hrt hhv (by rw [hdev, hinc, hseq, hG]; exact hsq))
    have hsn : (seq != G + 1) = true := by simp; omega
    have hsn2 : ¬ seq = G + 1 := by omega
    have hsn3 : (seq == G + 1) = false := by simp; omega
    clear hhv hrt hdev hinc hseq hq
    go_enter Tryz.func19, Tryz.ntmps19
    go_wp2_with (first | (refine wpList_loadAll rfl 43 _ rfl be 19 A rfl oE Tryz.isAgg43 Tryz.sizeOf43 zA ?_) | (go_at_call 67; (with_reducible refine (HR _ (Below.refl _ _)).mono ?_); rintro e w2 ⟨rfl, hx2⟩; have o2 := oE.below hx2 lE; have y0 := o2.cell 0 hi0; have y1 := o2.cell 1 hi1; have y2 := o2.cell 2 hi2) | (go_at_call 36; (with_reducible refine (HH _ hx2).mono ?_); rintro e w3 ⟨rfl, hx3⟩; have hb := hx2.trans (hx3.mono hx2.size)))
    have hb := hb.drew
    refine wp_region_held_drew (S := fun w' => w'.cell? ⟨be, 0, none⟩ = some (.int .i64 dev) ∧ w'.cell? ⟨be, 1, none⟩ = some (.int .i64 inc) ∧ w'.cell? ⟨be, 2, none⟩ = some (.int .i64 seq)) (by kernel_rfl) (hSb _ hb) (fun hHeld => ?_)
    first | (refine tR (i := 0) rfl rfl ?_) | (refine tL (i := 0) (v := ?vb30) rfl ?hyb30 ?rb30; case hyb30 => (rintro w' hS; obtain ⟨hs0, hs1, hs2⟩ := hS; go_simp; try with_reducible rfl))
    try simp only [gA, gB, Act.put, gD, gE, gF]
    first | (refine tR (i := 1) rfl rfl ?_) | (refine tL (i := 1) (v := ?vb31) rfl ?hyb31 ?rb31; case hyb31 => (rintro w' hS; obtain ⟨hs0, hs1, hs2⟩ := hS; go_simp; try with_reducible rfl))
    try simp only [gA, gB, gC, Act.put, gD, gE, gF]
    first | (refine tR (i := 2) rfl rfl ?_) | (refine tL (i := 2) (v := ?vb32) rfl ?hyb32 ?rb32; case hyb32 => (rintro w' hS; obtain ⟨hs0, hs1, hs2⟩ := hS; go_simp; try with_reducible rfl))
    try simp only [gA, gB, gC, Act.put, gD, gE, gF]
    first | (refine tR (i := 3) rfl rfl ?_) | (refine tL (i := 3) (v := ?vb33) rfl ?hyb33 ?rb33; case hyb33 => (rintro w' hS; obtain ⟨hs0, hs1, hs2⟩ := hS; go_simp; try with_reducible rfl))
    try simp only [gA, gB, gC, Act.put, gD, gE, gF]
    first | (refine tR (i := 4) rfl rfl ?_) | (refine tL (i := 4) (v := ?vb34) rfl ?hyb34 ?rb34; case hyb34 => (rintro w' hS; obtain ⟨hs0, hs1, hs2⟩ := hS; go_simp; try with_reducible rfl))
    try simp only [gA, gB, gC, Act.put, gD, gE, gF]
    first | (refine tR (i := 5) rfl rfl ?_) | (refine tL (i := 5) (v := ?vb35) rfl ?hyb35 ?rb35; case hyb35 => (rintro w' hS; obtain ⟨hs0, hs1, hs2⟩ := hS; go_simp; try with_reducible rfl))
    try simp only [gA, gB, gC, Act.put, gD, gE, gF]
    first | (refine tR (i := 6) rfl rfl ?_) | (refine tL (i := 6) (v := ?vb36) rfl ?hyb36 ?rb36; case hyb36 => (rintro w' hS; obtain ⟨hs0, hs1, hs2⟩ := hS; go_simp; try with_reducible rfl))
    try simp only [gA, gB, gC, Act.put, gD, gE, gF]
    first | (refine tR (i := 7) rfl rfl ?_) | (refine tL (i := 7) (v := ?vb37) rfl ?hyb37 ?rb37; case hyb37 => (rintro w' hS; obtain ⟨hs0, hs1, hs2⟩ := hS; go_simp; try with_reducible rfl))
    try simp only [gA, gB, gC, Act.put, gD, gE, gF]
    first | (refine tR (i := 8) rfl rfl ?_) | (refine tL (i := 8) (v := ?vb38) rfl ?hyb38 ?rb38; case hyb38 => (rintro w' hS; obtain ⟨hs0, hs1, hs2⟩ := hS; go_simp; try with_reducible rfl))
    try simp only [gA, gB, gC, Act.put, gD, gE, gF]
    refine wpAnyH_ready (rs := [9]) (by kernel_rfl) (by simp) ?_
    refine AllReadyH.cons (o := _) rfl (fun K hK => ?_) AllReadyH.nil
    go_simp
    go_at_call 68; (with_reducible refine (HG _ hb).mono ?_); rintro e w4 ⟨rfl, hx⟩; have hb := hb.trans (hx.mono hb.size); clear hx
    try dsimp only
    refine hK.out _ _ (hSb _ hb) (fun hHeld => ?_)
    clear hK K
    try simp only [gA, gB, gC, Act.put, gD, gE, gF]
    first | (refine tR (i := 10) rfl rfl ?_) | (refine tL (i := 10) (v := ?vb39) rfl ?hyb39 ?rb39; case hyb39 => (rintro w' hS; obtain ⟨hs0, hs1, hs2⟩ := hS; go_simp; try with_reducible rfl))
    try simp only [gA, gB, gC, Act.put, gD, gE, gF]
    first | (refine tR (i := 11) rfl rfl ?_) | (refine tL (i := 11) (v := ?vb40) rfl ?hyb40 ?rb40; case hyb40 => (rintro w' hS; obtain ⟨hs0, hs1, hs2⟩ := hS; go_simp; try with_reducible rfl))
    try simp only [gA, gB, gC, Act.put, gD, gE, gF]
    first | (refine tR (i := 12) rfl rfl ?_) | (refine tL (i := 12) (v := ?vb41) rfl ?hyb41 ?rb41; case hyb41 => (rintro w' hS; obtain ⟨hs0, hs1, hs2⟩ := hS; go_simp; try with_reducible rfl))
    try simp only [gA, gB, gC, Act.put, gD, gE, gF]
    refine wpAnyH_done (by kernel_rfl) ?_ _
    go_wp2
    go_ret2
    refine ⟨?_, B, rs, ?_⟩
    · first | (rw [hpl.out]; rfl) | (rw [hpl.out])
    · rw [hpl.out]
      exact Step.refl h (b1.trans (hb.mono b1.size))
end Go.Proofs.YtaodjnkjjmhecaaGreatDoor
