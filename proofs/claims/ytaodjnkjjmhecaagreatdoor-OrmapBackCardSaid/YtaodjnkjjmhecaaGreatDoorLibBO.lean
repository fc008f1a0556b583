/- Contracts and plain words that the laws' proofs stand on. -/
import Derived.Test.YtaodjnkjjmhecaaGreatDoorLibBM
namespace Go.Proofs.YtaodjnkjjmhecaaGreatDoor
open Go.RowKit
set_option linter.unusedVariables false
structure StV (w : World) (p s : Nat) (M N : MapN) (q : Option Addr) (K c : Nat) (D : List EvR) (v : World) : Prop where
  ex : ∃ F R G S, MapAt v p F R M ∧ MapAt v s G S N ∧ (∀ k, F k ∨ G k → w.heap.size ≤ k) ∧ (∀ k, F k → ¬ G k ∧ ¬ S k) ∧ (∀ k, G k → ¬ F k ∧ ¬ R k) ∧ ∀ k, At q k → ¬ F k ∧ ¬ G k ∧ k < v.heap.size
  row : RowOf encE 19 v q K c D
  hb : Below w.heap.size w v
theorem StV.below {w v v' : World} {p s : Nat} {M N : MapN} {q : Option Addr} {K c : Nat} {D : List EvR} (h : StV w p s M N q K c D v) (hx : Below v.heap.size v v') : StV w p s M N q K c D v' := by
  obtain ⟨F, R, G, S, h1, h2, h3, h4, h5, h6⟩ := h.ex
  exact ⟨⟨F, R, G, S, h1.below hx, h2.below hx, h3, h4, h5, fun k hk => ⟨(h6 k hk).1, (h6 k hk).2.1, Nat.lt_of_lt_of_le (h6 k hk).2.2 hx.size⟩⟩, h.row.below hx, h.hb.trans (hx.mono h.hb.size)⟩
theorem StV.turned {w v : World} {p s : Nat} {M N : MapN} {q : Option Addr} {K c : Nat} {D : List EvR} (h : StV w p s M N q K c D v) : StV w s p N M q K c D v := by
  obtain ⟨F, R, G, S, h1, h2, h3, h4, h5, h6⟩ := h.ex
  exact ⟨⟨G, S, F, R, h2, h1, fun k h => h3 k h.symm, h5, h4, fun k hk => ⟨(h6 k hk).2.1, (h6 k hk).1, (h6 k hk).2.2⟩⟩, h.row, h.hb⟩
theorem stVApply {w v : World} {p s : Nat} {M N : MapN} {q : Option Addr} {K c : Nat} {D : List EvR} (r : EvR) (A : Array Value) (hA : (encE r).toArray = A) (h : StV w p s M N q K c D v) (hE : RowOf encD 3 w r.a r.e.over.length r.c r.e.over) (hl : lightE r.e = true) (hTb : OTb w) (hdn : M.dead.length ≤ 100000) :
    Calls Tryz.prog 19 #[.pointer (some ⟨p, 0, none⟩), .agg A] v fun en w' => en = .returned (.tuple #[.bool (applyM M r.e).2.1, .int .i64 (applyM M r.e).2.2]) ∧ StV w p s (applyM M r.e).1 N q K c D w' := by
  obtain ⟨F, R, G, S, h1, h2, h3, h4, h5, h6⟩ := h.ex
  have ha := overA_lt hE
  refine (mApplyC p F R M r A hA v h1 (hE.below h.hb) (fun k hk hF => by have := ha k hk; have := h3 k (.inl hF); omega) hl (hTb.below h.hb) (by omega)).mono ?_
  rintro en w' ⟨rfl, F', R', hv, hk, h7, h8⟩
  have hs := h.hb.size
  have hkk := hk
  refine ⟨rfl, ⟨F', R', G, S, hv, h2.keeps hk (fun k hk hF => hk.elim (h4 k hF).1 (h4 k hF).2), fun k hk => hk.elim (fun hk => (h7 k hk).elim (fun h => h3 k (.inl h)) (fun h => Nat.le_trans hs h)) (fun hk => h3 k (.inr hk)), fun k hk => ?_, fun k hk => ?_, fun k hk => ?_⟩, h.row.keeps hk (fun k hk => (h6 k hk).1), h.hb.trans (hk.below hs fun i _ h => h3 i (.inl h))⟩
  · rcases h7 k hk with hF | hn
    · exact h4 k hF
    · exact ⟨fun hG => by have := h2.lt k (.inl hG); omega, fun hS => by have := h2.lt k (.inr hS); omega⟩
  · have hlt := h2.lt k (.inl hk)
    have hge := h3 k (.inr hk)
    refine ⟨fun hF => (h7 k hF).elim (h5 k hk).1 (fun h => by omega), fun hR => (h8 k hR).elim (h5 k hk).2 fun h => h.elim (fun h => by have := ha k h; omega) (fun h => by omega)⟩
  · obtain ⟨e1, e2, e3⟩ := h6 k hk
    exact ⟨fun hF => (h7 k hF).elim e1 (fun h => by omega), e2, Nat.lt_of_lt_of_le e3 hkk.size⟩
theorem stVIs {w v : World} {p s : Nat} {N : MapN} {q : Option Addr} {K c : Nat} {D : List EvR} {ac ak ad : Option Addr} {nc cc nk ck nd cd : Nat} {W : MapR} (h : StV w p s W.plain N q K c D v) (hW : RowM v ac nc cc ak nk ck ad nd cd W) (hO : OversAt v W.kept) (hn : nk ≤ 100000) (hdn : W.dead.length ≤ 100000) :
    Calls Tryz.prog 27 #[.pointer (some ⟨p, 0, none⟩), .agg #[.slice ac nc cc, .slice ak nk ck, .slice ad nd cd]] v fun en w' => en = .returned (.bool true) ∧ Below v.heap.size v w' := by
  obtain ⟨F, R, G, S, h1, h2⟩ := h.ex
  exact isMC p F R ac nc cc ak nk ck ad nd cd W v h1 hW hO hn hdn
theorem stOForget {w v : World} {p : Nat} {m : MapN} (d : DotN) (h : StOm w p m v) (hx : FitD d) :
    Calls Tryz.prog 21 #[.pointer (some ⟨p, 0, none⟩), .agg #[.int .i64 d.dev, .int .i64 d.inc, .int .i64 d.seq]] v fun en w' => en = .returned (.bool (forgetM m d).2) ∧ StOm w p (forgetM m d).1 w' := by
  obtain ⟨F, R, h1, h2⟩ := h.ex
  refine (mForgetC p F R m d v h1 hx).mono ?_
  rintro en w' ⟨rfl, F', R', hv, hk, h3, -⟩
  exact ⟨rfl, StOm.turn h.hb h2 hv hk h3⟩
theorem stOBare {w v : World} {p : Nat} {m : MapN} (d : DotN) (h : StOm w p m v) (hx : FitD d) :
    Calls Tryz.prog 23 #[.pointer (some ⟨p, 0, none⟩), .agg #[.int .i64 d.dev, .int .i64 d.inc, .int .i64 d.seq]] v fun en w' => en = .returned (.bool (bareM m d).2) ∧ StOm w p (bareM m d).1 w' := by
  obtain ⟨F, R, h1, h2⟩ := h.ex
  refine (mBareC p F R m d v h1 hx).mono ?_
  rintro en w' ⟨rfl, F', R', hv, hk, h3, -⟩
  exact ⟨rfl, StOm.turn h.hb h2 hv hk h3⟩
theorem stOClear {w v : World} {p : Nat} {m : MapN} (d : DotN) (h : StOm w p m v) (hx : FitD d) :
    Calls Tryz.prog 25 #[.pointer (some ⟨p, 0, none⟩), .agg #[.int .i64 d.dev, .int .i64 d.inc, .int .i64 d.seq]] v fun en w' => en = .returned (.bool (clearM m d).2) ∧ StOm w p (clearM m d).1 w' := by
  obtain ⟨F, R, h1, h2⟩ := h.ex
  refine (mClearC p F R m d v h1 hx).mono ?_
  rintro en w' ⟨rfl, F', R', hv, hk, h3, -⟩
  exact ⟨rfl, StOm.turn h.hb h2 hv hk h3⟩
theorem StV.loaded {w wr v3 v4 : World} {p q : Nat} {M N : MapN} {F R G S : Nat → Prop} (hm : MapAt wr p F R M) (hF : ∀ k, F k → w.heap.size ≤ k) (hb : Below w.heap.size w wr) (h1 : Below wr.heap.size wr v3) (hx4 : Below v3.heap.size v3 v4) (hn : MapAt v4 q G S N) (hG : ∀ k, G k → v3.heap.size ≤ k) (hS : ∀ k, S k → R k ∨ wr.heap.size ≤ k) : StV w p q M N none 0 0 [] v4 := by
  have h2 : Below wr.heap.size wr v4 := h1.trans (hx4.mono h1.size)
  refine ⟨⟨F, R, G, S, hm.below h2, hn, fun k hk => hk.elim (hF k) (fun hk => Nat.le_trans hb.size (Nat.le_trans h1.size (hG k hk))), fun k hk => ?_, fun k hk => ?_, fun k hk => by obtain ⟨x, hx, -⟩ := hk; cases hx⟩, RowOf.none encE 19 v4, hb.trans (h2.mono hb.size)⟩
  · have hlt := hm.lt k (.inl hk)
    have := h1.size
    exact ⟨fun hg => by have := hG k hg; omega, fun hs => (hS k hs).elim (hm.apart k hk) (fun h => by omega)⟩
  · have hge := hG k hk
    have := h1.size
    exact ⟨fun hf => by have := hm.lt k (.inl hf); omega, fun hr => by have := hm.lt k (.inr hr); omega⟩
def mapR (m : MapN) (P : List EvR) : MapR := ⟨m.ctx, P, m.dead⟩
theorem mapR_plain {m : MapN} {P : List EvR} (h : P.map (·.e) = m.kept) : (mapR m P).plain = m := by
  unfold mapR MapR.plain
  dsimp only
  rw [h]
theorem stVContext {w v : World} {p s : Nat} {M N : MapN} {q : Option Addr} {K c : Nat} {D : List EvR} (h : StV w p s M N q K c D v) : Calls Tryz.prog 42 #[.pointer (some ⟨p, 0, none⟩)] v (GivesDs M.ctx v) := by
  obtain ⟨F, R, G, S, h1, -⟩ := h.ex
  exact mContextC p F R M v h1
theorem stVDeads {w v : World} {p s : Nat} {M N : MapN} {q : Option Addr} {K c : Nat} {D : List EvR} (h : StV w p s M N q K c D v) (hdn : M.dead.length ≤ 100000) : Calls Tryz.prog 48 #[.pointer (some ⟨p, 0, none⟩)] v (GivesDs M.dead v) := by
  obtain ⟨F, R, G, S, h1, -⟩ := h.ex
  exact mDeadsC p F R M v h1 hdn
theorem stVAlive {w v : World} {p s : Nat} {M N : MapN} {q : Option Addr} {K c : Nat} {D : List EvR} (h : StV w p s M N q K c D v) : Calls Tryz.prog 44 #[.pointer (some ⟨p, 0, none⟩)] v (GivesEs (aliveM M) v) := by
  obtain ⟨F, R, G, S, h1, -⟩ := h.ex
  exact mAliveC p F R M v h1
theorem stVEvents {w v : World} {p s : Nat} {M N : MapN} {q : Option Addr} {K c : Nat} {D : List EvR} (h : StV w p s M N q K c D v) : Calls Tryz.prog 43 #[.pointer (some ⟨p, 0, none⟩)] v fun en w' => ∃ a n c P, en = .returned (.slice a n c) ∧ P.map (·.e) = M.kept ∧ RowOf encE 19 w' a n c P ∧ OversAt w' P ∧ Below v.heap.size v w' := by
  obtain ⟨F, R, G, S, h1, -⟩ := h.ex
  exact (mEventsR p F R M v h1).mono fun en w' ⟨a, n, c, P, h1, h2, h3, h4, _, _, h5⟩ => ⟨a, n, c, P, h1, h2, h3, h4, h5⟩
set_option maxHeartbeats 8000000 in
set_option maxRecDepth 100000 in
theorem backW (a : Option Addr) (n c : Nat) (P : List StepR) (b : Option Addr) (n2 c2 : Nat) (Q : List EvR) (w : World) (hL : RowOf encS 20 w a n c P) (hO : ∀ s ∈ P, RowOf encD 3 w s.r.a s.r.e.over.length s.r.c s.r.e.over) (hT : ∀ s ∈ P, s.r.e.item.name.length ≤ maxLen ∧ s.r.e.item.dom.length ≤ maxLen ∧ s.r.e.item.path.length ≤ maxLen ∧ s.r.e.item.val.length ≤ maxLen) (hL2 : RowOf encE 19 w b n2 c2 Q) (hO2 : OversAt w Q) (hT2 : ∀ r ∈ Q, r.e.item.name.length ≤ maxLen ∧ r.e.item.dom.length ≤ maxLen ∧ r.e.item.path.length ≤ maxLen ∧ r.e.item.val.length ≤ maxLen) (hFs : ∀ s ∈ P, FitD s.r.e.dot) (hTb : OTb w) :
    Calls Tryz.prog 9 #[.slice a n c, .slice b n2 c2] w fun en w' => en = .returned (.bool true) ∧ Below w.heap.size w w' := by
  have hcm := hL.capm; have hcl := hL.cle; have hlq := hL.leq
  have hcm2 := hL2.capm; have hcl2 := hL2.cle; have hlq2 := hL2.leq
  unfold maxLen at hcm hcm2
  have HAW := fun v (hv : Below w.heap.size w v) => awake21C v (hTb.below hv)
  have HN := fun v => mNewC v
  have HLG := sLightC a n c 40 P w hL hT
  have HLA := fun v (hv : Below w.heap.size w v) => refLightAllC b n2 c2 20 (Q.map (·.e)) v ⟨Q, rfl, hL2.below hv, hO2.below hv⟩ (fun e he => by obtain ⟨r, hr, rfl⟩ := List.mem_map.1 he; exact hT2 r hr)
  rw [List.length_map, hlq2] at HLA
  rw [hlq] at HLG
  cases h1 : (decide ((n : Int) ≤ 40) && P.all fun s => lightE s.r.e) with
  | false =>
    rw [h1] at HLG
    clear h1
    go_enter Tryz.func9, Tryz.ntmps9
    go_wp2_with (first
      | (go_at_call 15; (with_reducible refine HLG.mono ?_); rintro e w1 ⟨rfl, hx1⟩)
      | (go_at_call 16; (with_reducible refine (HAW _ hx1).mono ?_); rintro e w2 ⟨rfl, hx2⟩))
    go_ret
    exact ⟨rfl, belowOn hx1 hx2⟩
  | true =>
  rw [h1] at HLG
  cases h2 : (decide ((n2 : Int) ≤ 20) && (Q.map (·.e)).all lightE) with
  | false =>
    rw [h2] at HLA
    clear h1 h2
    go_enter Tryz.func9, Tryz.ntmps9
    go_wp2_with (first
      | (go_at_call 15; (with_reducible refine HLG.mono ?_); rintro e w1 ⟨rfl, hx1⟩)
      | (go_at_call 28; (with_reducible refine (HLA _ hx1).mono ?_); rintro e w2 ⟨rfl, hx2⟩)
      | (go_at_call 16; (with_reducible refine (HAW _ (belowOn hx1 hx2)).mono ?_); rintro e w3 ⟨rfl, hx3⟩))
    go_ret
    exact ⟨rfl, belowOn (belowOn hx1 hx2) hx3⟩
  | true =>
  rw [h2] at HLA
  rw [Bool.and_eq_true, decide_eq_true_eq] at h1 h2
  obtain ⟨hn, hal⟩ := h1
  obtain ⟨hn2, hal2⟩ := h2
  have hli : ∀ s ∈ P, lightE s.r.e = true := fun s hs => List.all_eq_true.1 hal s hs
  have hli2 : ∀ r ∈ Q, lightE r.e = true := fun r hr => List.all_eq_true.1 hal2 _ (List.mem_map.2 ⟨r, hr, rfl⟩)
  clear hal hal2 hT hT2
  go_enter Tryz.func9, Tryz.ntmps9
  go_wp2_with (first
    | (go_at_call 15; (with_reducible refine HLG.mono ?_); rintro e w1 ⟨rfl, hx1⟩)
    | (go_at_call 28; (with_reducible refine (HLA _ hx1).mono ?_); rintro e w2 ⟨rfl, hx2⟩; have hx2 := hx1.trans (hx2.mono hx1.size))
    | (go_at_call 17; (with_reducible refine (HN _).mono ?_); rintro e w3 ⟨p, F, R, rfl, hm3, hF3, hx3⟩; have hS0 := StOm.new hm3 (fun k hk => Nat.le_trans hx2.size (hF3 k hk)) (hx2.trans (hx3.mono hx2.size))))
  clear hm3 hF3 hx3 hx2 hx1 HLG HLA HN
  go_loopw [6] (fun i wr => ∃ k : Nat, k ≤ n ∧ i = .int .i64 (k : Int) ∧ StOm w p (stepsM MapN.none (P.take k)) wr) (fun i _ => n - (intOf i).toNat)
  case atStart => exact ⟨0, Nat.zero_le _, rfl, hS0⟩
  case round =>
    clear hS0
    obtain ⟨k, hk, rfl, hS⟩ := hrel
    by_cases hlt : k < n
    · have hlt' : (k : Int) < (n : Int) := by omega
      have i1 : (0 : Int) ≤ (k : Int) := by omega
      obtain ⟨s, g1, f1, A, hk1, rfl, hA, zA, lA, c0', cA0, kA⟩ := step_at hL k hlt
      obtain ⟨ck, cA⟩ := kA wr hS.hb
      have hmem := List.mem_of_getElem? hk1
      have hst := steps_snoc MapN.none hk1
      have e0 : wr.cell? ⟨g1, f1 + k * 20 + 1, none⟩ = some (.int .i64 s.r.e.dot.dev) := cA 0 _ (by rw [lA]; rfl)
      have e1 : wr.cell? ⟨g1, f1 + k * 20 + 1 + 1, none⟩ = some (.int .i64 s.r.e.dot.inc) := cA 1 _ (by rw [lA]; rfl)
      have e2 : wr.cell? ⟨g1, f1 + k * 20 + 1 + 2, none⟩ = some (.int .i64 s.r.e.dot.seq) := cA 2 _ (by rw [lA]; rfl)
      have hdk : (stepsM MapN.none (P.take k)).dead.length ≤ 100000 := by
        have := (GoodM.steps (P.take k) MapN.none 0 GoodM.none (by rw [List.length_take]; omega) (fun s hs => hli s (List.mem_of_mem_take hs))).dead
        rw [List.length_take] at this
        omega
      generalize stepsM MapN.none (P.take k) = m at *
      by_cases h1 : s.kind = 1
      · have t1 : (s.kind == 1) = true := beq_iff_eq.2 h1
        have hstk : stepM m s = (applyM m s.r.e).1 := by unfold stepM; rw [if_pos h1]
        rw [hstk] at hst
        have HX := stOApply s.r A hA hS (hO s hmem) (hli s hmem) hTb hdk
        rw [← hst] at HX
        clear hst hstk hA lA hk1 kA cA0 c0'
        generalize s.kind = sk at *
        go_wp2_with (first | (refine wpList_loadRow rfl 43 _ rfl g1 (f1 + k * 20 + 1) 19 A rfl cA Tryz.isAgg43 Tryz.sizeOf43 zA ?_) | (go_at_call 19; (with_reducible refine HX.mono ?_); rintro e w4 ⟨rfl, hS4⟩))
        go_roundw
        case rel => exact ⟨k + 1, by omega, by go_num, hS4⟩
        case measure => simp [intOf]; omega
      have t1 : (s.kind == 1) = false := beq_eq_false_iff_ne.2 h1
      by_cases h2 : s.kind = 2
      · have t2 : (s.kind == 2) = true := beq_iff_eq.2 h2
        have hstk : stepM m s = (forgetM m s.r.e.dot).1 := by unfold stepM; rw [if_neg h1, if_pos h2]
        rw [hstk] at hst
        have HX := stOForget s.r.e.dot hS (hFs s hmem)
        rw [← hst] at HX
        clear hst hstk hA lA hk1 kA cA0 c0'
        generalize s.kind = sk at *
        go_wp2_with (first | (go_at_call 21; (with_reducible refine HX.mono ?_); rintro e w4 ⟨rfl, hS4⟩))
        go_roundw
        case rel => exact ⟨k + 1, by omega, by go_num, hS4⟩
        case measure => simp [intOf]; omega
      have t2 : (s.kind == 2) = false := beq_eq_false_iff_ne.2 h2
      by_cases h3 : s.kind = 3
      · have t3 : (s.kind == 3) = true := beq_iff_eq.2 h3
        have hstk : stepM m s = (bareM m s.r.e.dot).1 := by unfold stepM; rw [if_neg h1, if_neg h2, if_pos h3]
        rw [hstk] at hst
        have HX := stOBare s.r.e.dot hS (hFs s hmem)
        rw [← hst] at HX
        clear hst hstk hA lA hk1 kA cA0 c0'
        generalize s.kind = sk at *
        go_wp2_with (first | (go_at_call 23; (with_reducible refine HX.mono ?_); rintro e w4 ⟨rfl, hS4⟩))
        go_roundw
        case rel => exact ⟨k + 1, by omega, by go_num, hS4⟩
        case measure => simp [intOf]; omega
      have t3 : (s.kind == 3) = false := beq_eq_false_iff_ne.2 h3
      by_cases h4 : s.kind = 4
      · have t4 : (s.kind == 4) = true := beq_iff_eq.2 h4
        have hstk : stepM m s = (clearM m s.r.e.dot).1 := by unfold stepM; rw [if_neg h1, if_neg h2, if_neg h3, if_pos h4]
        rw [hstk] at hst
        have HX := stOClear s.r.e.dot hS (hFs s hmem)
        rw [← hst] at HX
        clear hst hstk hA lA hk1 kA cA0 c0'
        generalize s.kind = sk at *
        go_wp2_with (first | (go_at_call 25; (with_reducible refine HX.mono ?_); rintro e w4 ⟨rfl, hS4⟩))
        go_roundw
        case rel => exact ⟨k + 1, by omega, by go_num, hS4⟩
        case measure => simp [intOf]; omega
      have t4 : (s.kind == 4) = false := beq_eq_false_iff_ne.2 h4
      have hstk : stepM m s = m := by unfold stepM; rw [if_neg h1, if_neg h2, if_neg h3, if_neg h4]
      rw [hstk] at hst
      clear hstk hA lA hk1 kA cA0 c0' cA
      generalize s.kind = sk at *
      go_wp2
      go_roundw
      case rel => exact ⟨k + 1, by omega, by go_num, by rw [hst]; exact hS⟩
      case measure => simp [intOf]; omega
    · obtain rfl : n = k := by omega
      obtain ⟨wo, hwo⟩ : ∃ wo, wo = wr := ⟨wr, rfl⟩
      subst hwo
      rw [List.take_of_length_le (by omega)] at hS
      have hgm := GoodM.steps P MapN.none 0 GoodM.none (by omega) hli
      have hld := hgm.load (by omega)
      have hlg := hgm.light
      have hfc : ∀ x ∈ (stepsM MapN.none P).ctx, FitD x := fun x hx => right_fitD (hgm.oks.ok.ctx.right x hx)
      have hd0 : (stepsM MapN.none P).dead.length ≤ 100000 := by have := hgm.dead; omega
      generalize stepsM MapN.none P = M0 at *
      obtain ⟨F, R, hm, hF⟩ := hS.ex
      have hb := hS.hb
      have HLD : ∀ (ac : Option Addr) (nc cc : Nat) (ak : Option Addr) (nk ck : Nat) (ad : Option Addr) (nd cd : Nat) (P9 : List EvR) (v : World), RowOf encD 3 v ac nc cc M0.ctx → RowOf encE 19 v ak nk ck P9 → RowOf encD 3 v ad nd cd M0.dead → OversAt v P9 → P9.map (·.e) = M0.kept → Below w.heap.size w v → Calls Tryz.prog 49 #[.slice ac nc cc, .slice ak nk ck, .slice ad nd cd] v fun en w' => ∃ q G S, en = .returned (.tuple #[.pointer (some ⟨q, 0, none⟩), .int .i64 0]) ∧ MapAt w' q G S M0 ∧ (∀ k, G k → v.heap.size ≤ k) ∧ (∀ k, S k → (At ac k ∨ At ak k ∨ At ad k) ∨ (∃ r ∈ P9, At (overA r) k) ∨ v.heap.size ≤ k) ∧ Below v.heap.size v w' := fun ac nc cc ak nk ck ad nd cd P9 v h1 h2 h3 h4 h5 h6 => by
        have h := mLoadYes ac nc cc ak nk ck ad nd cd (mapR M0 P9) v ⟨h1, h2, h3⟩ h4 (fun r hr => hlg _ (h5 ▸ List.mem_map.2 ⟨r, hr, rfl⟩)) (by rw [mapR_plain h5]; exact hld) (hTb.below h6) hfc
        rw [mapR_plain h5] at h
        exact h
      clear hS hld hlg hlt hk hL hO
      go_wp2_with (first
        | (go_at_call 42; (with_reducible refine (mContextR p F R M0 _ hm).mono ?_); rintro e v1 ⟨ac, nc, cc, rfl, hc, lc, hx1⟩; have hm1 := hm.below hx1)
        | (go_at_call 43; (with_reducible refine (mEventsR p F R M0 _ hm1).mono ?_); rintro e v2 ⟨ak, nk, ck, P9, rfl, hP9, hk9, hov9, lk, lo, hx2⟩; have hm2 := hm1.below hx2)
        | (go_at_call 48; (with_reducible refine (mDeadsR p F R M0 _ hm2 hd0).mono ?_); rintro e v3 ⟨ad, nd, cd, rfl, hd, ld, hx3⟩)
        | (go_at_call 49; (with_reducible refine (HLD _ _ _ _ _ _ _ _ _ P9 _ ((hc.below hx2).below hx3) (hk9.below hx3) hd (hov9.below hx3) hP9 (belowOn (belowOn (belowOn hb hx1) hx2) hx3)).mono ?_); rintro e v4 ⟨q, G, S, rfl, hn4, hG4, hS4, hx4⟩))
      have hx13 : Below wo.heap.size wo v3 := (hx1.trans (hx2.mono hx1.size)).trans (hx3.mono (hx1.trans (hx2.mono hx1.size)).size)
      have hV4 : StV w p q M0 M0 none 0 0 [] v4 := StV.loaded hm hF hb hx13 hx4 hn4 hG4 (fun k hk => by
        have s1 := hx1.size; have s2 := hx2.size; have s3 := hx3.size
        rcases hS4 k hk with (h | h | h) | ⟨r, hr, h⟩ | h
        · exact (lc k h).1
        · exact (lk k h).1.imp id fun h => by omega
        · exact (ld k h).1.imp id fun h => by omega
        · exact (lo r hr k h).imp id fun h => by omega
        · exact .inr (by omega))
      clear hx13 hn4 hG4 hS4 hx4 hd ld hx3 hm2 hP9 hk9 hov9 lk lo hx2 hm1 hc lc hx1 HLD hm hF hb
      have hgr := fun k => GoodM.runs ((Q.take k).map (·.e)) M0 _ hgm (by rw [List.length_map, List.length_take]; omega) (fun e he => by obtain ⟨r, hr, rfl⟩ := List.mem_map.1 he; exact hli2 r (List.mem_of_mem_take hr))
      go_loopw [9] (fun i wr => ∃ k : Nat, k ≤ n2 ∧ i = .int .i64 (k : Int) ∧ StV w p q (runM M0 ((Q.take k).map (·.e))) (runM M0 ((Q.take k).map (·.e))) none 0 0 [] wr) (fun i _ => n2 - (intOf i).toNat)
      case atStart => exact ⟨0, Nat.zero_le _, rfl, hV4⟩
      case round =>
        clear hV4
        obtain ⟨k, hk, rfl, hV⟩ := hrel
        by_cases hlt : k < n2
        · have hlt' : (k : Int) < (n2 : Int) := by omega
          have i1 : (0 : Int) ≤ (k : Int) := by omega
          obtain ⟨r, g1, f1, A, hk1, rfl, hA, zA, lA, cA0, kA⟩ := evr_at hL2 k hlt
          have cA := kA wr hV.hb
          have hmem := List.mem_of_getElem? hk1
          have hst := run_snoc M0 hk1
          have hdx : (runM M0 ((Q.take k).map (·.e))).dead.length ≤ 100000 := by have := (hgr k).dead; rw [List.length_map, List.length_take] at this; omega
          clear hgr
          generalize runM M0 ((Q.take k).map (·.e)) = X at *
          have HA1 := stVApply r A hA hV (hO2 r hmem) (hli2 r hmem) hTb hdx
          have HA2 := fun v (h : StV w p q (applyM X r.e).1 X none 0 0 [] v) => stVApply r A hA h.turned (hO2 r hmem) (hli2 r hmem) hTb hdx
          rw [← hst] at HA1 HA2
          obtain ⟨X2, hX2⟩ : ∃ X2, runM M0 ((Q.take (k + 1)).map (·.e)) = X2 := ⟨_, rfl⟩
          rw [hX2] at HA1 HA2 hst
          have HX2 := Lib.hid hX2
          clear hX2
          generalize (applyM X r.e).2.1 = b1 at *
          generalize (applyM X r.e).2.2 = e1 at *
          clear hst cA0 hA lA hk1
          go_wp2_with (first
            | (refine wpList_loadRow rfl 43 _ rfl g1 (f1 + k * 19) 19 A rfl cA Tryz.isAgg43 Tryz.sizeOf43 zA ?_)
            | (go_at_call 19; (with_reducible refine HA1.mono ?_); rintro e w4 ⟨rfl, hV4⟩; have cA := kA w4 hV4.hb)
            | (go_at_call 19; (with_reducible refine (HA2 _ hV4).mono ?_); rintro e w5 ⟨rfl, hV5⟩))
          go_roundw
          case rel => exact ⟨k + 1, by omega, by go_num, by rw [HX2.out]; exact hV5.turned⟩
          case measure => simp [intOf]; omega
        · obtain rfl : n2 = k := by omega
          have hgx := hgr n2
          rw [List.take_of_length_le (by omega)] at hV hgx
          have hxk := hgx.kept
          rw [List.length_map] at hxk
          have hdx : (runM M0 (Q.map (·.e))).dead.length ≤ 100000 := by have := hgx.dead; rw [List.length_map] at this; omega
          generalize runM M0 (Q.map (·.e)) = X at *
          have HIS : ∀ (ac : Option Addr) (nc cc : Nat) (ak : Option Addr) (nk ck : Nat) (ad : Option Addr) (nd cd : Nat) (P9 : List EvR) (v : World), StV w p q X X none 0 0 [] v → RowOf encD 3 v ac nc cc X.ctx → RowOf encE 19 v ak nk ck P9 → RowOf encD 3 v ad nd cd X.dead → OversAt v P9 → P9.map (·.e) = X.kept → Calls Tryz.prog 27 #[.pointer (some ⟨q, 0, none⟩), .agg #[.slice ac nc cc, .slice ak nk ck, .slice ad nd cd]] v fun en w' => en = .returned (.bool true) ∧ Below v.heap.size v w' := fun ac nc cc ak nk ck ad nd cd P9 v h0 h1 h2 h3 h4 h5 =>
            stVIs (W := mapR X P9) (by rw [mapR_plain h5]; exact h0.turned) ⟨h1, h2, h3⟩ h4 (by have e1 := h2.leq; have e2 := congrArg List.length h5; rw [List.length_map] at e2; omega) hdx
          clear hgr hgm hgx hlt hk hL2 hO2
          go_wp2_with (first
            | (go_at_call 42; (with_reducible refine (stVContext hV).mono ?_); rintro e v1 ⟨ac, nc, cc, rfl, hc, hx1⟩; have hV1 := hV.below hx1)
            | (go_at_call 43; (with_reducible refine (stVEvents hV1).mono ?_); rintro e v2 ⟨ak, nk, ck, P9, rfl, hP9, hk9, hov9, hx2⟩; have hV2 := hV1.below hx2)
            | (go_at_call 48; (with_reducible refine (stVDeads hV2 hdx).mono ?_); rintro e v3 ⟨ad, nd, cd, rfl, hd, hx3⟩; have hV3 := hV2.below hx3)
            | (go_at_call 27; (with_reducible refine (HIS _ _ _ _ _ _ _ _ _ P9 _ hV3 ((hc.below hx2).below hx3) (hk9.below hx3) hd (hov9.below hx3) hP9).mono ?_); rintro e v4 ⟨rfl, hx4⟩; have hV4 := hV3.below hx4)
            | (go_at_call 44; (with_reducible refine (stVAlive hV5.turned).mono ?_); rintro e v6 ⟨a6, n6, c6, rfl, hr6, hx6⟩; have hr5 := hr5.below hx6)
            | (go_at_call 44; (with_reducible refine (stVAlive hV4).mono ?_); rintro e v5 ⟨a5, n5, c5, rfl, hr5, hx5⟩; have hV5 := hV4.below hx5)
            | (go_at_call 32; (with_reducible refine (sameAX _ _ _ _ _ _ _ _ hr5 hr6).mono ?_); rintro e v7 ⟨rfl, hx7⟩)
            | (go_at_call 16; (with_reducible refine (HAW _ (belowOn (belowOn hV5.hb hx6) hx7)).mono ?_); rintro e v8 ⟨rfl, hx8⟩))
          go_ret
          exact ⟨rfl, belowOn (belowOn (belowOn hV5.hb hx6) hx7) hx8⟩
theorem ormapBack_walk (a : Option Addr) (n c : Nat) (Q : List StepR) (b : Option Addr) (n2 c2 : Nat) (R : List EvR) (w : World) (hr : RowOf encS 20 w a n c Q) (hok : ∀ x ∈ Q, OkR w x.r) (hr2 : RowOf encE 19 w b n2 c2 R) (hok2 : ∀ x ∈ R, OkR w x) (hTb : OTb w) :
    Calls Tryz.prog 9 #[.slice a n c, .slice b n2 c2] w fun en w' => en = .returned (.bool true) ∧ Below w.heap.size w w' :=
  backW a n c Q b n2 c2 R w hr (fun r h => (hok r h).1) (fun r h => (hok r h).2.1) hr2 (fun r h => (hok2 r h).1) (fun r h => (hok2 r h).2.1) (fun r h => (hok r h).2.2) hTb
end Go.Proofs.YtaodjnkjjmhecaaGreatDoor
