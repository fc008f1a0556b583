/- Contracts and plain words that the laws' proofs stand on. -/
import Derived.Test.YtaodjnkjjmhecaaGreatDoorLibAV
import Derived.Test.YtaodjnkjjmhecaaGreatDoorLibAM
import Derived.Test.YtaodjnkjjmhecaaGreatDoorLibBJ
namespace Go.Proofs.YtaodjnkjjmhecaaGreatDoor
open Go.RowKit
set_option linter.unusedVariables false
theorem covers_iff {l m : List DotN} (hl : OkV l) (hm : OkV m) : coversV l m = true ↔ ∀ d i, getV m d i ≤ getV l d i := by
  unfold coversV
  rw [List.all_eq_true]
  constructor
  · intro h d i
    by_cases c : getV m d i = 0
    · rw [c]
      exact (getV_range hl d i).1
    · obtain ⟨x, hx, rfl, rfl, e⟩ := getV_some c
      rw [← e]
      exact of_decide_eq_true (h x hx)
  · intro h x hx
    have := h x.dev x.inc
    rw [getV_mem hm.ord hx] at this
    exact decide_eq_true this
end Go.Proofs.YtaodjnkjjmhecaaGreatDoor
namespace Go.Proofs.YtaodjnkjjmhecaaGreatDoor
set_option linter.unusedVariables false
structure FullMp (m : MapN) : Prop where
  ok : OkMp m
  right : ∀ e ∈ m.kept, rightE e = true
  all : ∀ d i s : Int, 1 ≤ s → s ≤ getV m.ctx d i → ∃ e ∈ m.kept, e.dot = ⟨d, i, s⟩
  dead : SortedD m.dead
  over : ∀ x, x ∈ m.dead ↔ ∃ e ∈ m.kept, x ∈ e.over
theorem fullMp_none : FullMp MapN.none := ⟨okMp_none, fun e h => absurd h List.not_mem_nil, fun d i s h1 h2 => by rw [show getV MapN.none.ctx d i = 0 from rfl] at h2; omega, List.Pairwise.nil, fun x => ⟨fun h => absurd h List.not_mem_nil, fun ⟨e, h, _⟩ => absurd h List.not_mem_nil⟩⟩
theorem put_full {m : MapN} {e : EventN} (h : FullMp m) (ht : takesM m e) : FullMp (putMp m e) := by
  have hk : ∀ x, x ∈ (putMp m e).kept ↔ x = e ∨ x ∈ m.kept := fun x => insE_mem m.kept e x
  refine ⟨put_ok h.ok ht, fun x hx => ((hk x).1 hx).elim (fun c => by rw [c]; exact ht.1) (h.right x), fun d i s h1 h2 => ?_, sortD_sorted _, fun x => ?_⟩
  · rw [show (putMp m e).ctx = setV m.ctx e.dot from rfl, getV_set h.ok.ctx.ord] at h2
    by_cases c : e.dot.dev = d ∧ e.dot.inc = i
    · rw [if_pos c] at h2
      by_cases c2 : s = e.dot.seq
      · refine ⟨e, (hk e).2 (.inl rfl), ?_⟩
        obtain ⟨⟨d0, i0, s0⟩, st, kd, it, ov⟩ := e
        obtain ⟨rfl, rfl⟩ := c
        subst c2
        rfl
      · have := ht.2
        rw [c.1, c.2] at this
        obtain ⟨x, hx, hd⟩ := h.all d i s h1 (by omega)
        exact ⟨x, (hk x).2 (.inr hx), hd⟩
    · rw [if_neg c] at h2
      obtain ⟨x, hx, hd⟩ := h.all d i s h1 h2
      exact ⟨x, (hk x).2 (.inr hx), hd⟩
  · show x ∈ sortD (m.dead ++ e.over) ↔ _
    rw [sortD_mem, List.mem_append, h.over]
    constructor
    · rintro (⟨y, hy, hx⟩ | hx)
      · exact ⟨y, (hk y).2 (.inr hy), hx⟩
      · exact ⟨e, (hk e).2 (.inl rfl), hx⟩
    · rintro ⟨y, hy, hx⟩
      rcases (hk y).1 hy with rfl | hy
      · exact .inr hx
      · exact .inl ⟨y, hy, hx⟩
theorem apply_fullM {m : MapN} (e : EventN) (h : FullMp m) (hn : m.kept.length < 2048) : FullMp (applyM m e).1 := by
  rw [apply_is e hn]
  split
  · exact put_full h ‹_›
  · exact h
theorem run_full : ∀ (l : List EventN) (m : MapN), FullMp m → m.kept.length + l.length ≤ 2048 → FullMp (runM m l)
  | [], _, h, _ => h
  | e :: t, m, h, hn => by
    rw [List.length_cons] at hn
    have h1 := apply_len (m := m) e
    exact run_full t _ (apply_fullM e h (by omega)) (show (applyM m e).1.kept.length + t.length ≤ 2048 by omega)
theorem right_seq {e : EventN} (h : rightE e = true) : 1 ≤ e.dot.seq := by
  have := right_range (right_dotE h)
  omega
def beyondM (m : MapN) (l : List DotN) : List EventN := m.kept.filter fun e => !hasV l e.dot
theorem beyond_mem {m : MapN} {l : List DotN} {e : EventN} : e ∈ beyondM m l ↔ e ∈ m.kept ∧ hasV l e.dot = false := by
  unfold beyondM
  rw [List.mem_filter, Bool.not_eq_true']
theorem has_not {l : List DotN} {e : EventN} (h : rightE e = true) : hasV l e.dot = false ↔ getV l e.dot.dev e.dot.inc < e.dot.seq := by
  unfold hasV
  rw [right_dotE h, Bool.true_and, decide_eq_false_iff_not]
  omega
theorem less_same {x y : DotN} (h : lessD x y = true) (h1 : x.dev = y.dev) (h2 : x.inc = y.inc) : x.seq < y.seq := by
  rw [lessD_iff] at h
  omega
theorem same_less {x y : DotN} (h : x.seq < y.seq) (h1 : x.dev = y.dev) (h2 : x.inc = y.inc) : lessD x y = true := by
  rw [lessD_iff]
  omega
structure MidM (n : MapN) (A : List EventN) (X : MapN) : Prop where
  full : FullMp X
  kept : ∀ e, e ∈ X.kept ↔ e ∈ A ∨ e ∈ n.kept
  len : X.kept.length = n.kept.length + A.length
theorem mid_takes {m n X : MapN} {A B : List EventN} {e : EventN} (hm : FullMp m) (hn : FullMp n) (hD : beyondM m n.ctx = A ++ e :: B) (h : MidM n A X) : takesM X e := by
  have hin : ∀ x, x ∈ A ++ e :: B ↔ x ∈ m.kept ∧ hasV n.ctx x.dot = false := fun x => by rw [← hD]; exact beyond_mem
  have he := (hin e).1 (List.mem_append_right _ (List.mem_cons_self ..))
  have hr := hm.right e he.1
  have hlt := (has_not hr).1 he.2
  have hso : SortedE (A ++ e :: B) := by rw [← hD]; exact hm.ok.kept.filter _
  obtain ⟨-, hs2, hs3⟩ := List.pairwise_append.1 hso
  have hs4 := (List.pairwise_cons.1 hs2).1
  refine ⟨hr, ?_⟩
  have h1 := right_seq hr
  have up : ∀ s : Int, 1 ≤ s → s ≤ getV X.ctx e.dot.dev e.dot.inc → s < e.dot.seq := fun s hs h2 => by
    obtain ⟨x, hx, hd⟩ := h.full.all _ _ s hs h2
    rcases (h.kept x).1 hx with hx | hx
    · have := less_same (hs3 x hx e (List.mem_cons_self ..)) (by rw [hd]) (by rw [hd])
      rw [hd] at this
      exact this
    · have := hn.ok.dots x hx
      rw [hd] at this
      dsimp only at this
      omega
  have down : 1 ≤ e.dot.seq - 1 → e.dot.seq - 1 ≤ getV X.ctx e.dot.dev e.dot.inc := fun hs => by
    obtain ⟨x, hx, hd⟩ := hm.all e.dot.dev e.dot.inc (e.dot.seq - 1) hs (Int.le_trans (by omega) (hm.ok.dots e he.1))
    by_cases c : hasV n.ctx x.dot = false
    · have hxd := (hin x).2 ⟨hx, c⟩
      have hl : lessD x.dot e.dot = true := same_less (by rw [hd]; dsimp only; omega) (by rw [hd]) (by rw [hd])
      rcases List.mem_append.1 hxd with hA | hB
      · have := h.full.ok.dots x ((h.kept x).2 (.inl hA))
        rw [hd] at this
        exact this
      · rcases List.mem_cons.1 hB with rfl | hB
        · rw [lessD_irrefl] at hl
          cases hl
        · have h3 := hs4 x hB
          rw [lessD_iff] at h3 hl
          omega
    · have hr' := hm.right x hx
      have c2 : ¬ getV n.ctx x.dot.dev x.dot.inc < x.dot.seq := fun c3 => c ((has_not hr').2 c3)
      rw [hd] at c2
      dsimp only at c2
      have h9 : e.dot.seq - 1 ≤ getV n.ctx e.dot.dev e.dot.inc := by omega
      obtain ⟨y, hy, hyd⟩ := hn.all _ _ _ hs h9
      have := h.full.ok.dots y ((h.kept y).2 (.inr hy))
      rw [hyd] at this
      exact this
  have hz := (getV_range h.full.ok.ctx e.dot.dev e.dot.inc).1
  have u1 := up (getV X.ctx e.dot.dev e.dot.inc)
  by_cases c : 1 ≤ e.dot.seq - 1
  · have := down c
    have := u1 (by omega) (Int.le_refl _)
    omega
  · by_cases c2 : 1 ≤ getV X.ctx e.dot.dev e.dot.inc
    · have := u1 c2 (Int.le_refl _)
      omega
    · omega
theorem mid_next {m n X : MapN} {A B : List EventN} {e : EventN} (hm : FullMp m) (hn : FullMp n) (hD : beyondM m n.ctx = A ++ e :: B) (h : MidM n A X) (hl : X.kept.length < 2048) :
    applyM X e = (putMp X e, true, 0) ∧ MidM n (A ++ [e]) (putMp X e) := by
  have ht := mid_takes hm hn hD h
  have h3 : ¬ hasV X.ctx e.dot = true := by
    unfold hasV
    rw [Bool.and_eq_true, decide_eq_true_iff]
    have := ht.2
    omega
  constructor
  · unfold applyM
    rw [if_neg (by rw [ht.1]; exact Bool.noConfusion), if_neg h3, if_neg (fun c => c ht.2), if_neg (by omega)]
    rfl
  · refine ⟨put_full h.full ht, fun x => ?_, ?_⟩
    · rw [show (putMp X e).kept = insE X.kept e from rfl, insE_mem, h.kept, List.mem_append, List.mem_singleton]
      constructor
      · rintro (h | h | h)
        · exact .inl (.inr h)
        · exact .inl (.inl h)
        · exact .inr h
      · rintro ((h | h) | h)
        · exact .inr (.inl h)
        · exact .inl h
        · exact .inr (.inr h)
    · rw [show (putMp X e).kept = insE X.kept e from rfl, insE_length, h.len, List.length_append, List.length_singleton]
      omega
theorem merge_beyond {m n : MapN} (hm : FullMp m) (hn : FullMp n) (hl : n.kept.length + m.kept.length ≤ 2048) :
    ∃ X, mergeM n (beyondM m n.ctx) = (X, ((beyondM m n.ctx).length : Int), 0) ∧ MidM n (beyondM m n.ctx) X := by
  have hlen : (beyondM m n.ctx).length ≤ m.kept.length := List.length_filter_le _ _
  have H : ∀ (B A : List EventN) (X : MapN), beyondM m n.ctx = A ++ B → MidM n A X → ∃ Y, B.foldl mergeStep (X, (A.length : Int), 0) = (Y, ((A ++ B).length : Int), 0) ∧ MidM n (A ++ B) Y := by
    intro B
    induction B with
    | nil => exact fun A X h1 h2 => ⟨X, by rw [List.append_nil]; rfl, by rw [List.append_nil]; exact h2⟩
    | cons e t ih =>
      intro A X h1 h2
      have h3 := h2.len
      have h4 := congrArg List.length h1
      rw [List.length_append, List.length_cons] at h4
      obtain ⟨h5, h6⟩ := mid_next hm hn h1 h2 (by omega)
      obtain ⟨Y, h7, h8⟩ := ih (A ++ [e]) (putMp X e) (by rw [h1, List.append_assoc]; rfl) h6
      refine ⟨Y, ?_, by rw [List.append_assoc] at h8; exact h8⟩
      rw [List.foldl_cons]
      have h9 : mergeStep (X, (A.length : Int), 0) e = (putMp X e, ((A ++ [e]).length : Int), 0) := by
        unfold mergeStep
        rw [h5]
        simp
      rw [h9, h7, List.append_assoc]
      rfl
  obtain ⟨Y, h1, h2⟩ := H (beyondM m n.ctx) [] n rfl ⟨hn, fun e => ⟨.inr, fun h => h.elim (fun h => absurd h List.not_mem_nil) id⟩, by simp⟩
  exact ⟨Y, h1, h2⟩
theorem merge_covers {m n X : MapN} (hm : FullMp m) (hn : FullMp n) (h : MidM n (beyondM m n.ctx) X) : coversV X.ctx m.ctx = true := by
  rw [covers_iff h.full.ok.ctx hm.ok.ctx]
  intro d i
  have hz := (getV_range h.full.ok.ctx d i).1
  by_cases c : 1 ≤ getV m.ctx d i
  · obtain ⟨e, he, hd⟩ := hm.all d i _ c (Int.le_refl _)
    by_cases c2 : hasV n.ctx e.dot = false
    · have := h.full.ok.dots e ((h.kept e).2 (.inl (beyond_mem.2 ⟨he, c2⟩)))
      rw [hd] at this
      exact this
    · have c3 : ¬ getV n.ctx e.dot.dev e.dot.inc < e.dot.seq := fun c3 => c2 ((has_not (hm.right e he)).2 c3)
      rw [hd] at c3
      dsimp only at c3
      obtain ⟨y, hy, hyd⟩ := hn.all d i _ c (by omega)
      have := h.full.ok.dots y ((h.kept y).2 (.inr hy))
      rw [hyd] at this
      exact this
  · omega
end Go.Proofs.YtaodjnkjjmhecaaGreatDoor
namespace Go.Proofs.YtaodjnkjjmhecaaGreatDoor
open Go.RowKit Go.Lib
set_option linter.unusedVariables false
set_option linter.unusedSimpArgs false
theorem full_fold (l : List EventN) (hn : l.length ≤ 2048) : FullMp (foldM l) := run_full l MapN.none fullMp_none (by rw [show MapN.none.kept.length = 0 from rfl]; omega)
theorem check_ok {l : List DotN} (h : OkV l) (hn : l.length ≤ 4096) : checkV l = 0 := by
  unfold checkV
  rw [if_neg (by omega)]
  exact chkF_zero _ _ h.ord h.right fun z hz => by cases hz
theorem covers_plain (m n : MapN) (hm : FullMp m) (hn : FullMp n) (hl : n.kept.length + m.kept.length ≤ 2048) : ∃ X, mergeM n (ofM n.ctx (-1) m.kept) = (X, ((ofM n.ctx (-1) m.kept).length : Int), 0) ∧ needsM m X.ctx = false := by
  obtain ⟨X, h1, h2⟩ := merge_beyond hm hn hl
  have e : ofM n.ctx (-1) m.kept = beyondM m n.ctx := rfl
  rw [e]
  refine ⟨X, h1, ?_⟩
  unfold needsM
  rw [any_covers hm.ok.ctx.right, merge_covers hm hn h2]
  simp
set_option maxHeartbeats 8000000 in
set_option maxRecDepth 100000 in
theorem deltaCoversW (a : Option Addr) (n c : Nat) (P : List EvR) (b : Option Addr) (n2 c2 : Nat) (Q : List EvR) (w : World) (hP : RowOf encE 19 w a n c P) (hO : OversAt w P) (hT : ∀ r ∈ P, r.e.item.name.length ≤ maxLen ∧ r.e.item.dom.length ≤ maxLen ∧ r.e.item.path.length ≤ maxLen ∧ r.e.item.val.length ≤ maxLen) (hQ : RowOf encE 19 w b n2 c2 Q) (hO2 : OversAt w Q) (hT2 : ∀ r ∈ Q, r.e.item.name.length ≤ maxLen ∧ r.e.item.dom.length ≤ maxLen ∧ r.e.item.path.length ≤ maxLen ∧ r.e.item.val.length ≤ maxLen) (hTb : OTb w) :
    Calls Tryz.prog 12 #[.slice a n c, .slice b n2 c2] w fun en w' => en = .returned (.bool true) ∧ Below w.heap.size w w' := by
  have hlq := hP.leq
  have hlq2 := hQ.leq
  have HLA := refLightAllC a n c 30 (P.map (·.e)) w ⟨P, rfl, hP, hO⟩ (fun e he => by obtain ⟨r, hr, rfl⟩ := List.mem_map.1 he; exact hT r hr)
  have HLB := fun v (hv : Below w.heap.size w v) => refLightAllC b n2 c2 30 (Q.map (·.e)) v ⟨Q, rfl, hQ.below hv, hO2.below hv⟩ (fun e he => by obtain ⟨r, hr, rfl⟩ := List.mem_map.1 he; exact hT2 r hr)
  have HAW := fun v (hv : Below w.heap.size w v) => awake22C v (hTb.below hv)
  rw [List.length_map, hlq] at HLA
  rw [List.length_map, hlq2] at HLB
  cases hla : (decide ((n : Int) ≤ 30) && (P.map (·.e)).all lightE) with
  | false =>
    rw [hla] at HLA
    clear hla
    go_enter Tryz.func12, Tryz.ntmps12
    go_wp2_with (first
      | (go_at_call 28; (with_reducible refine HLA.mono ?_); rintro e w1 ⟨rfl, hx1⟩)
      | (go_at_call 51; (with_reducible refine (HAW _ hx1).mono ?_); rintro e w2 ⟨rfl, hx2⟩))
    go_ret
    exact ⟨rfl, belowOn hx1 hx2⟩
  | true =>
  rw [hla] at HLA
  cases hlb : (decide ((n2 : Int) ≤ 30) && (Q.map (·.e)).all lightE) with
  | false =>
    rw [hlb] at HLB
    clear hla hlb
    go_enter Tryz.func12, Tryz.ntmps12
    go_wp2_with (first
      | (go_at_call 28; (with_reducible refine HLA.mono ?_); rintro e w1 ⟨rfl, hx1⟩)
      | (go_at_call 28; (with_reducible refine (HLB _ hx1).mono ?_); rintro e w2 ⟨rfl, hx2⟩)
      | (go_at_call 51; (with_reducible refine (HAW _ (belowOn hx1 hx2)).mono ?_); rintro e w3 ⟨rfl, hx3⟩))
    go_ret
    exact ⟨rfl, belowOn (belowOn hx1 hx2) hx3⟩
  | true =>
    rw [hlb] at HLB
    rw [Bool.and_eq_true, decide_eq_true_eq] at hla hlb
    obtain ⟨hn, hal⟩ := hla
    obtain ⟨hn2, hal2⟩ := hlb
    have hli : ∀ r ∈ P, lightE r.e = true := fun r hr => List.all_eq_true.1 hal _ (List.mem_map.2 ⟨r, hr, rfl⟩)
    have hli2 : ∀ r ∈ Q, lightE r.e = true := fun r hr => List.all_eq_true.1 hal2 _ (List.mem_map.2 ⟨r, hr, rfl⟩)
    have HMA := fun v (hv : Below w.heap.size w v) => madeC a n c P v (hP.below hv) (hO.below hv) hli (by omega) (hTb.below hv)
    have HMB := fun v (hv : Below w.heap.size w v) => madeC b n2 c2 Q v (hQ.below hv) (hO2.below hv) hli2 (by omega) (hTb.below hv)
    unfold MadeIs at HMA HMB
    have hg1 : GoodM (foldR P).plain 30 := by
      rw [fold_map]
      have h := GoodM.runs (P.map (·.e)) MapN.none 0 GoodM.none (by rw [List.length_map]; omega) (fun e he => by obtain ⟨r, hr, rfl⟩ := List.mem_map.1 he; exact hli r hr)
      exact h.more (by rw [List.length_map]; omega)
    have hg2 : GoodM (foldR Q).plain 30 := by
      rw [fold_map]
      have h := GoodM.runs (Q.map (·.e)) MapN.none 0 GoodM.none (by rw [List.length_map]; omega) (fun e he => by obtain ⟨r, hr, rfl⟩ := List.mem_map.1 he; exact hli2 r hr)
      exact h.more (by rw [List.length_map]; omega)
    have hf1 : FullMp (foldR P).plain := by rw [fold_map]; exact full_fold _ (by rw [List.length_map]; omega)
    have hf2 : FullMp (foldR Q).plain := by rw [fold_map]; exact full_fold _ (by rw [List.length_map]; omega)
    generalize (foldR P).plain = m at *
    generalize (foldR Q).plain = o at *
    have hk1 := hg1.kept; have hk2 := hg2.kept; have hc2 := hg2.ctx
    obtain ⟨X, hX, hnx⟩ := covers_plain m o hf1 hf2 (by omega)
    have hofl : (ofM o.ctx (-1) m.kept).length ≤ 30 := Nat.le_trans (by unfold ofM; rw [if_pos (by omega)]; exact List.length_filter_le _ _) hk1
    have hofg : ∀ e ∈ ofM o.ctx (-1) m.kept, lightE e = true := fun e he => hg1.light e (by unfold ofM at he; rw [if_pos (by omega)] at he; exact (List.mem_filter.1 he).1)
    have hck := check_ok hf2.ok.ctx (by omega)
    have HOF : ∀ v p a1 n1 c1, Below w.heap.size w v → ArgM v (.pointer (some ⟨p, 0, none⟩)) m → ArgM v (.pointer (some ⟨p, 0, none⟩)) m → RowOf encD 3 v a1 n1 c1 o.ctx → Calls Tryz.prog 53 #[.pointer (some ⟨p, 0, none⟩), .slice a1 n1 c1, .int .i64 (-1)] v (OfIs (ofM o.ctx (-1) m.kept) v) := fun v p a1 n1 c1 hv h _ hr => dOfYes p rfl h a1 n1 c1 o.ctx (-1) hr (fun x hx => right_fitD (hf2.ok.ctx.right x hx)) hck h.keptFit
    unfold OfIs at HOF
    have HME : ∀ v p F R a1 n1 c1 P1, Below w.heap.size w v → (∀ k, F k → w.heap.size ≤ k) → MapAt v p F R o → RowOf encE 19 v a1 n1 c1 P1 → OversAt v P1 → P1.map (·.e) = ofM o.ctx (-1) m.kept → (∀ k, At a1 k → ¬ F k) → (∀ r ∈ P1, ∀ k, At (overA r) k → ¬ F k) → Calls Tryz.prog 59 #[.pointer (some ⟨p, 0, none⟩), .slice a1 n1 c1] v fun en w' => en = .returned (.tuple #[.int .i64 (n1 : Int), .int .i64 0]) ∧ ∃ F' R', MapAt w' p F' R' X ∧ Keeps F v w' := fun v p F R a1 n1 c1 P1 hv hF hm hr ho he h1 h2 => by
      have hlen : n1 = (ofM o.ctx (-1) m.kept).length := by rw [← he, List.length_map, hr.leq]
      have h := dMergeC p F R o 30 a1 n1 c1 P1 w v hv hF hm hr ho (fun _ => h1) h2 (fun r hr2 => hofg _ (he ▸ List.mem_map.2 ⟨r, hr2, rfl⟩)) hTb hg2 (by omega)
      rw [he, hX, ← hlen] at h
      exact h.mono fun en w' ⟨h1, F', R', h3, h4, _⟩ => ⟨h1, F', R', h3, h4⟩
    have HNE : ∀ v p a1 n1 c1, MapAt v p (fun _ => True) (fun _ => True) m ∨ ArgM v (.pointer (some ⟨p, 0, none⟩)) m → RowOf encD 3 v a1 n1 c1 X.ctx → (∀ x ∈ X.ctx, FitD x) → Calls Tryz.prog 55 #[.pointer (some ⟨p, 0, none⟩), .slice a1 n1 c1] v fun en w' => en = .returned (.bool false) ∧ Below v.heap.size v w' := fun v p a1 n1 c1 h hr hf => by
      have := dNeedsC (h.elim MapAt.arg id) a1 n1 c1 X.ctx hr hf
      rw [hnx] at this
      exact this
    have HC1 := fun v p F R (h : MapAt v p F R o) => mContextA h.arg
    have HC2 := fun v p F R (h : MapAt v p F R X) => mContextA h.arg
    clear hX hnx hofl hofg hck hf1 hf2 hg1 hg2 hk1 hk2 hc2 hal hal2 hP hO hQ hO2 hT hT2
    go_enter Tryz.func12, Tryz.ntmps12
    go_wp2_with (first
      | (go_at_call 28; (with_reducible refine HLA.mono ?_); rintro e w1 ⟨rfl, hx1⟩)
      | (go_at_call 28; (with_reducible refine (HLB _ hx1).mono ?_); rintro e w0 ⟨rfl, hx0⟩; have hb0 := belowOn hx1 hx0)
      | (go_at_call 52; (with_reducible refine (HMA _ hb0).mono ?_); rintro e w2 ⟨p2, F2, R2, ac2, nc2, cc2, ak2, nk2, ck2, ad2, nd2, cd2, rfl, hm2', hF2, -, hx2⟩; have hb2' := belowOn hb0 hx2; have b2 := below_alloc w2 (.cells #[.slice ac2 nc2 cc2, .slice ak2 nk2 ck2, .slice ad2 nd2 cd2] 31); have hm2 := hm2'.below b2; have hb2 := belowOn hb2' b2)
      | (go_at_call 52; (with_reducible refine (HMB _ hb2).mono ?_); rintro e w3 ⟨p3, F3, R3, ac3, nc3, cc3, ak3, nk3, ck3, ad3, nd3, cd3, rfl, hm3', hF3, -, hx3⟩; have hb3' := belowOn hb2 hx3; have b3 := below_alloc w3 (.cells #[.slice ac3 nc3 cc3, .slice ak3 nk3 ck3, .slice ad3 nd3 cd3] 31); have hm3 := hm3'.below b3; have hb3 := belowOn hb3' b3; have hmA := (hm2.below hx3).below b3)
      | (go_at_call 42; (with_reducible refine (HC1 _ _ _ _ hm3).mono ?_); rintro e w4 ⟨a4, c4, rfl, hz4, hx4⟩; have hb4 := belowOn hb3 hx4; have hmA4 := hmA.below hx4; have hmB4 := hm3.below hx4)
      | (go_at_call 53; (with_reducible refine (HOF _ _ _ _ _ hb4 hmA4.arg hmA4.arg (hz4.row encD_len)).mono ?_); rintro e w5 ⟨q5, k5, c5, P5, rfl, hP5, hz5, hov5, hnew5, hx5⟩; have hb5 := belowOn hb4 hx5; have hmA5 := hmA4.below hx5; have hmB5 := hmB4.below hx5; have ha5 : ∀ k, At q5 k → ¬ F3 k := (fun k hk hc => (by have h1 := (hz5.lt' k hk).1; have h2 := hmB4.lt k (.inl hc); omega)); have hv5 : ∀ r ∈ P5, ∀ k, At (overA r) k → ¬ F3 k := (fun r hr k hk hc => (by have h1 := hnew5 r hr k hk; have h2 := hmB4.lt k (.inl hc); omega)); have hF3' : ∀ k, F3 k → w.heap.size ≤ k := (fun k hk => Nat.le_trans hb2.size (hF3 k hk)))
      | (go_at_call 59; (with_reducible refine (HME _ _ _ _ _ _ _ P5 hb5 hF3' hmB5 (hz5.row encE_len) hov5 hP5 ha5 hv5).mono ?_); rintro e w6 ⟨rfl, F6, R6, hmB6, hK6⟩; have hb6 := hb5.trans (hK6.below hb5.size (fun k _ hc => hF3' k hc)); have hmA6 := hmA5.keeps hK6 (fun k hk hc => (by have h1 := hm2.lt k hk; have h2 := hF3 k hc; omega)))
      | (go_at_call 42; (with_reducible refine (HC2 _ _ _ _ hmB6).mono ?_); rintro e w7 ⟨a7, c7, rfl, hz7, hx7⟩; have hb7 := belowOn hb6 hx7; have hmA7 := hmA6.below hx7)
      | (go_at_call 55; (with_reducible refine (HNE _ _ _ _ _ (.inr hmA7.arg) (hz7.row encD_len) hmB6.arg.ctxFit).mono ?_); rintro e w8 ⟨rfl, hx8⟩; have hb8 := belowOn hb7 hx8)
      | (go_at_call 51; (with_reducible refine (HAW _ hb8).mono ?_); rintro e w9 ⟨rfl, hx9⟩))
    go_ret
    exact ⟨rfl, belowOn hb8 hx9⟩
end Go.Proofs.YtaodjnkjjmhecaaGreatDoor
namespace Go.Proofs.YtaodjnkjjmhecaaGreatDoor
open Go.RowKit
set_option linter.unusedVariables false
theorem deltaCovers_walk (a : Option Addr) (n c : Nat) (P : List EvR) (b : Option Addr) (n2 c2 : Nat) (Q : List EvR) (w : World) (hpr : RowOf encE 19 w a n c P) (hpo : ∀ x ∈ P, OkR w x) (hqr : RowOf encE 19 w b n2 c2 Q) (hqo : ∀ x ∈ Q, OkR w x) (hTb : OTb w) :
    Calls Tryz.prog 12 #[.slice a n c, .slice b n2 c2] w fun en w' => en = .returned (.bool true) ∧ Below w.heap.size w w' :=
  deltaCoversW a n c P b n2 c2 Q w hpr (fun r h => (hpo r h).1) (fun r h => (hpo r h).2.1) hqr (fun r h => (hqo r h).1) (fun r h => (hqo r h).2.1) hTb
end Go.Proofs.YtaodjnkjjmhecaaGreatDoor
