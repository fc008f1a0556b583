/- Contracts and plain words that the laws' proofs stand on. -/
import Derived.Test.YtaodjnkjjmhecaaGreatDoorOrApply
import Derived.Test.YtaodjnkjjmhecaaGreatDoorSfPartition
namespace Go.Proofs.YtaodjnkjjmhecaaGreatDoor
open Go.RowKit Go.Shelf
set_option linter.unusedVariables false
attribute [local go_sem] Oper.semAt_some
theorem cell_user {w : World} {k i : Nat} {v : Value} (hv : w.cell? ⟨k, i, none⟩ = some v) : ∀ o, w.heap[k]? = some o → sysObj o = false := by
  intro o ho
  simp only [World.cell?, ho] at hv
  cases o <;> first | rfl | (simp at hv)
theorem Real.sys {Z : Nat} {w w' : World} {p : Nat} {B : Slots} {rs : List EvR} {m : MapN} (h : Real w p B rs m) (hs : SysStep Z w w') : Real w' p B rs m :=
  h.keeps hs.keeps (fun ⟨_, o, ho, h1⟩ => by rw [h.obj.user o ho] at h1; cases h1) (fun i b e ⟨_, o, ho, h1⟩ => by rw [(h.blk i b e).user o ho] at h1; cases h1) (fun r hr k hk ⟨_, o, ho, h1⟩ => by
    obtain ⟨i, n, hv⟩ := over_cell (h.over r hr) k hk
    rw [cell_user hv o ho] at h1
    cases h1)
theorem dead_snoc (L : List DotN) (x : DotN) : sortD (sortD L ++ [x]) = sortD (L ++ [x]) :=
  sorted_unique (sortD_sorted _) (sortD_sorted _) fun y => by rw [sortD_mem, sortD_mem, List.mem_append, List.mem_append, sortD_mem]
structure NewMap (w W : World) (p : Nat) (B : Slots) (rs : List EvR) (m : MapN) : Prop where
  real : Real W p B rs m
  own : ∀ k, OwnB p B k → w.heap.size ≤ k
  over : ∀ k, OverB rs k → w.heap.size ≤ k
theorem NewMap.step {w W W' : World} {p : Nat} {B B' : Slots} {rs rs' : List EvR} {m m' : MapN} (h : NewMap w W p B rs m) (s : Step W W' p B rs B' rs' m') (hW : w.heap.size ≤ W.heap.size) : NewMap w W' p B' rs' m' := by
  refine ⟨s.real, ?_, fun k hk => (s.over k hk).elim (h.over k) (Nat.le_trans hW)⟩
  rintro k (rfl | ⟨i, e⟩)
  · exact h.own k (.inl rfl)
  · rcases s.own i k e with ⟨j, c⟩ | c
    · exact h.own k (.inr ⟨j, c⟩)
    · exact Nat.le_trans hW c
theorem NewMap.sys {Z : Nat} {w W W' : World} {p : Nat} {B : Slots} {rs : List EvR} {m : MapN} (h : NewMap w W p B rs m) (hs : SysStep Z W W') : NewMap w W' p B rs m := ⟨h.real.sys hs, h.own, h.over⟩
theorem NewMap.below {w W W' : World} {p : Nat} {B : Slots} {rs : List EvR} {m : MapN} (h : NewMap w W p B rs m) (hb : Below W.heap.size W W') : NewMap w W' p B rs m := ⟨h.real.below hb, h.own, h.over⟩
structure BuiltA (w W : World) (p bm : Nat) (m : MapN) : Prop where
  ex : ∃ B rs, NewMap w W p B rs m
  cell : ObjAt W bm [.pointer (some ⟨p, 0, none⟩)]
  below : Below w.heap.size w W
theorem BuiltA.sys {Z : Nat} {w X Y : World} {p bm : Nat} {m : MapN} (h : BuiltA w X p bm m) (hs : SysStep Z X Y) (hZ : w.heap.size ≤ Z) : BuiltA w Y p bm m := by
  obtain ⟨B, rs, h1⟩ := h.ex
  exact ⟨⟨B, rs, h1.sys hs⟩, h.cell.sys hs, h.below.trans (hs.below hZ h.below.size)⟩
theorem BuiltA.new {w X Y : World} {p bm : Nat} {m : MapN} (h : BuiltA w X p bm m) (hb : Below X.heap.size X Y) : BuiltA w Y p bm m := by
  obtain ⟨B, rs, h1⟩ := h.ex
  exact ⟨⟨B, rs, h1.below hb⟩, h.cell.below hb h.cell.lt, h.below.trans (hb.mono h.below.size)⟩
theorem BuiltA.step {w X Y : World} {p bm : Nat} {m m' : MapN} {B B' : Slots} {rs rs' : List EvR} (hpm : bm ≠ p) (h1 : NewMap w X p B rs m) (hc : ObjAt X bm [.pointer (some ⟨p, 0, none⟩)]) (hb : Below w.heap.size w X) (hs : Step X Y p B rs B' rs' m') : BuiltA w Y p bm m' ∧ ∀ {G : Nat → Prop}, (∀ k, G k → k < w.heap.size) → StaysG G X Y := by
  have hbo : ∀ k, OwnB p B k → k ≠ bm := by
    rintro k (rfl | ⟨i, e⟩)
    · exact Ne.symm hpm
    · exact (h1.real.blk i k e).not_obj hc
  exact ⟨⟨⟨B', rs', h1.step hs hb.size⟩, hc.keeps hs.keeps (fun c => hbo bm c rfl), hb.trans (hs.keeps.below hb.size (fun k _ hk => h1.own k hk))⟩, fun hG => StaysG.ofKeeps hs.keeps (fun k o hk ho => h1.real.own_user k hk o ho) (fun k hk hc => by have := hG k hk; have := h1.own k hc; omega)⟩
theorem fold_mem {ε : Type} (f : ε → EventN) : ∀ (xs : List ε) (K : List EventN) (e : EventN), e ∈ xs.foldl (fun K y => insE K (f y)) K ↔ e ∈ K ∨ ∃ y ∈ xs, e = f y
  | [], K, e => by simp
  | x :: t, K, e => by
    rw [List.foldl_cons, fold_mem f t, (insE_perm K (f x)).mem_iff, List.mem_cons]
    constructor
    · rintro ((h | h) | ⟨y, hy, h⟩)
      · exact .inr ⟨x, List.mem_cons_self .., h⟩
      · exact .inl h
      · exact .inr ⟨y, List.mem_cons_of_mem _ hy, h⟩
    · rintro (h | ⟨y, hy, h⟩)
      · exact .inl (.inr h)
      · rcases List.mem_cons.1 hy with rfl | hy
        · exact .inl (.inl h)
        · exact .inr ⟨y, hy, h⟩
theorem fold_length {ε : Type} (f : ε → EventN) : ∀ (xs : List ε) (K : List EventN), (xs.foldl (fun K y => insE K (f y)) K).length = K.length + xs.length
  | [], K => by simp
  | x :: t, K => by
    rw [List.foldl_cons, fold_length f t, (insE_perm K (f x)).length_eq, List.length_cons, List.length_cons]
    omega
set_option maxRecDepth 100000 in
set_option maxHeartbeats 4000000 in
theorem buildI {δ ε : Type} (fd : δ → DotN) (fe : ε → EvR) {v : Value} {m2 : Option Nat} {G : Nat → Prop} {c : List DotN} (w : World) (hctx : ArgV w v m2 G c) (gk gd : Nat) (lk ld : Array Value) {Gk Gd : Nat → Prop} {Tk Sk : List ε → Prop} {Td Sd : List δ → Prop}
    (hk : ∀ m, 1 ≤ m → EachOf Fence.wide m Tryz.prog gk lk (fun x => #[.agg (encE (fe x)).toArray]) Gk Tk Sk w) (hd : ∀ m, 1 ≤ m → EachOf Fence.wide m Tryz.prog gd ld (fun x => #[valDot (fd x)]) Gd Td Sd w)
    (ek : ∀ args w, (callFunc gk args).run Tryz.prog w = .ok (.enter gk args) w) (ed : ∀ args w, (callFunc gd args).run Tryz.prog w = .ok (.enter gd args) w)
    (hGk : ∀ k, Gk k → k < w.heap.size) (hGd : ∀ k, Gd k → k < w.heap.size) (hdT : ∀ xs, Td xs → xs.length ≤ 900000 ∧ ∀ x ∈ xs, rightD (fd x) = true)
    (hkR : ∀ x, rightE (fe x).e = true ∧ lightE (fe x).e = true ∧ (fe x).e.dot.seq ≤ getV c (fe x).e.dot.dev (fe x).e.dot.inc) (hov : ∀ x, RowOf encD 3 w (fe x).a (fe x).e.over.length (fe x).c (fe x).e.over) (hkT : ∀ xs, Tk xs → (xs.map fun x => (fe x).e.dot).Nodup ∧ xs.length ≤ 2048) :
    Calls Tryz.prog 74 #[v, .func (.func gk) #[] lk, .func (.func gd) #[] ld] w fun e w' => ∃ p B rs xs ys, e = .returned (.pointer (some ⟨p, 0, none⟩)) ∧ Sd xs ∧ Sk ys ∧ NewMap w w' p B rs ⟨c, ys.foldl (fun K y => insE K (fe y).e) [], sortD (xs.map fd)⟩ ∧ Below w.heap.size w w' := by
  have HN := mNewI w
  have HJ := fun v2 p (hR : Real v2 p noSlots [] MapN.none) (hb : Below w.heap.size w v2) (hp : w.heap.size ≤ p) => vJoinI p 0 _ _ _ v2 hR.vec (hctx.below hb) (fun b hb2 hc => by
    have h1 := hctx.lt b hc
    rcases hb2 with rfl | c
    · omega
    · cases c)
  refine (callsIn_wide (n := 9)).1 ?_
  refine callsIn_of_wp_marks Tryz.func74 rfl trivial ?_ rfl
  simp only [Tryz.ntmps74, List.size_toArray, List.length_cons, List.length_nil, Nat.reduceAdd, Nat.reduceSub, Array.replicate_succ, Array.replicate_zero, List.push_toArray, List.append_toArray, List.nil_append, List.cons_append]
  gi_wp2_with (first
    | (refine ⟨trivial, ?_⟩; gi_at_call 17; refine (callsIn_wide.2 HN).mono ?_; rintro e w1 ⟨p, rfl, hR1, hb1, hp1⟩; have oM := (ObjAt.new w1 #[.pointer (some ⟨p, 0, none⟩)] 25); have bM := below_alloc w1 (.cells #[.pointer (some ⟨p, 0, none⟩)] 25); have hR2 := hR1.below bM; have hb2 := hb1.trans (bM.mono hb1.size); have cM := oM.cell 0 rfl)
    | (refine ⟨trivial, ?_⟩; gi_at_call 119; refine (callsIn_wide.2 (HJ _ p hR2 hb2 hp1)).mono ?_; rintro e w3 ⟨rfl, m3, hv3, hk3, hn3⟩))
  have hplt := hR1.obj.lt
  obtain ⟨bm, hbm⟩ : ∃ bm, w1.heap.size = bm := ⟨_, rfl⟩
  rw [hbm] at oM
  have hv2 := oM.lt
  rw [show joinV MapN.none.ctx c = c from join_nil hctx.ok] at hv3
  have N2 : NewMap w (w1.alloc (.cells #[.pointer (some ⟨p, 0, none⟩)] 25)) p noSlots [] MapN.none := ⟨hR2, fun k hk => by
    rcases hk with rfl | ⟨i, e⟩
    · exact hp1
    · exact absurd e (by simp [noSlots]), fun k hk => (by obtain ⟨r, hr, -⟩ := hk; cases hr)⟩
  obtain ⟨B3, hs3⟩ := Real.ctx hR2 hv3 hk3 hn3 (fun e he => by cases he)
  have N3 := N2.step hs3 hb2.size
  have hb3 := hb2.trans (hs3.keeps.below hb2.size (fun k _ hk => N2.own k hk))
  have hpm : bm ≠ p := by omega
  have oM3 : ObjAt w3 bm [.pointer (some ⟨p, 0, none⟩)] := oM.keeps hk3 (fun e => e.elim hpm (fun e => by cases e))
  clear hs3 hn3 hk3 hv3 N2 hR2 hb2 hv2 oM bM hR1 hb1 cM HJ HN
  rw [hbm]
  refine wpIn_forEach (α := δ) rfl (by omega) (gf := gd) (lb := ld) rfl trivial ed (hd 8 (by omega)) ((hb3).mono (Nat.le_refl _)) (fun _ => rfl)
    (fun pre W => BuiltA w W p bm ⟨c, [], sortD (pre.map fd)⟩)
    ?hI ⟨⟨B3, _, N3⟩, oM3, hb3⟩
    (fun x a' W => ∃ Bx, ObjAt W Bx (encD (fd x)) ∧ a' = { tmps := #[v, .func (.func gk) #[] lk, .func (.func gd) #[] ld, undef, undef, undef, .pointer none, .pointer (some ⟨bm, 0, none⟩), .pointer (some ⟨Bx, 0, none⟩), undef, .pointer (some ⟨p, 0, none⟩), .pointer (some ⟨p, 0, none⟩), .pointer (some ⟨p, 0, none⟩), .pointer (some ⟨p, 0, none⟩), v, .tuple #[], .func (.func gd) #[] ld, valDot (fd x), undef, undef, undef, undef, undef, undef, undef, undef, undef], defers := [] })
    ?hAx ?hassign ?hbody ?hdone
  case hI => exact fun pre X Y hs h => h.sys hs hb3.size
  case hAx =>
    rintro x a' X Y hs ⟨Bx, h1, h2⟩
    exact ⟨Bx, h1.sys hs, h2⟩
  case hassign =>
    rintro l pre x W hW hI
    dsimp only [valDot]
    gi_wp2
    have hb := below_alloc W (.cells #[.int .i64 (fd x).dev, .int .i64 (fd x).inc, .int .i64 (fd x).seq] 35)
    exact ⟨StaysG.ofBelow hb, hI.new hb, W.heap.size, ObjAt.new W #[.int .i64 (fd x).dev, .int .i64 (fd x).inc, .int .i64 (fd x).seq] 35, rfl⟩
  case hbody =>
    rintro l pre x a' W hTp ⟨⟨B, rs, h1⟩, h2, h3⟩ ⟨Bx, oX, rfl⟩
    obtain ⟨hlen, hdR⟩ := hdT _ hTp
    rw [List.length_append, List.length_singleton] at hlen
    have HK := mKillI h1.real (fd x) (hdR x (List.mem_append.2 (.inr (List.mem_singleton.2 rfl)))) (by
      have := sortD_len (pre.map fd)
      rw [List.length_map] at this
      dsimp only
      omega)
    have hkm : killM ⟨c, [], sortD (pre.map fd)⟩ (fd x) = ⟨c, [], sortD ((pre ++ [x]).map fd)⟩ := by
      unfold killM
      rw [List.map_append]
      exact congrArg (fun z => MapN.mk c [] z) (dead_snoc _ _)
    rw [hkm] at HK
    dsimp only [valDot, encD] at *
    have cM := h2.cell 0 rfl
    have y0 := oX.cell 0 rfl; have y1 := oX.cell 1 rfl; have y2 := oX.cell 2 rfl
    gi_wp2_with (refine ⟨trivial, ?_⟩; gi_at_call 71; refine (CallsIn.inRound l (callsIn_wide.2 HK)).mono ?_; rintro e w5 ⟨rfl, B5, hs5⟩)
    obtain ⟨q1, q2⟩ := BuiltA.step hpm h1 h2 h3 hs5
    rw [List.map_append] at q1
    exact ⟨q2 hGd, q1⟩
  case hdone =>
    rintro D xs W hD hS hBA hK
    have cM := hBA.cell.cell 0 rfl
    gi_wp2
    obtain ⟨DD, hDD⟩ : ∃ DD, sortD (xs.map fd) = DD := ⟨_, rfl⟩
    rw [hDD] at hBA
    have hDl : D < W.heap.size := (Array.getElem?_eq_some_iff.1 hK).1
    refine wpIn_forEach (α := ε) rfl (by omega) (gf := gk) (lb := lk) rfl trivial ek (hk 8 (by omega)) (hBA.below.mono (Nat.le_refl _)) (fun _ => rfl)
      (fun pre Y => BuiltA w Y p bm ⟨c, pre.foldl (fun K y => insE K (fe y).e) [], DD⟩ ∧ Y.heap[D]? = some (.deferred (some [])))
      ?hI2 ⟨hBA, hK⟩
      (fun x a' Y => ∃ Bx, ObjAt Y Bx (encE (fe x)).toArray.toList ∧ a' = { tmps := #[v, .func (.func gk) #[] lk, .func (.func gd) #[] ld, undef, undef, undef, .pointer none, .pointer (some ⟨bm, 0, none⟩), undef, .pointer (some ⟨Bx, 0, none⟩), .pointer (some ⟨p, 0, none⟩), .pointer (some ⟨p, 0, none⟩), .pointer (some ⟨p, 0, none⟩), .pointer (some ⟨p, 0, none⟩), v, .tuple #[], .func (.func gd) #[] ld, undef, undef, undef, undef, .func (.func gk) #[] lk, .agg (encE (fe x)).toArray, undef, undef, undef, undef], defers := [] })
      ?hAx2 ?hassign2 ?hbody2 ?hdone2
    case hI2 =>
      rintro pre X Y hs ⟨h1, h2⟩
      exact ⟨h1.sys hs hBA.below.size, hs.same D _ h2 (.inl hDl)⟩
    case hAx2 =>
      rintro x a' X Y hs ⟨Bx, h1, h2⟩
      exact ⟨Bx, h1.sys hs, h2⟩
    case hassign2 =>
      rintro l pre x Y hW2 ⟨hI, hI2⟩
      obtain ⟨A, hA⟩ : ∃ A, (encE (fe x)).toArray = A := ⟨_, rfl⟩
      dsimp only
      rw [hA]
      have zA : A.size = 19 := by rw [← hA]; rfl
      have honeA : A.all (·.oneCell') = true := by rw [← hA]; exact encO_one (some (fe x))
      obtain ⟨Z, hZ⟩ : ∃ Z, (#[.int .i64 0, .int .i64 0, .int .i64 0, .int .i64 0, .int .i64 0, .int .i64 0, .int .i64 0, .string ⟨#[]⟩, .string ⟨#[]⟩, .string ⟨#[]⟩, .string ⟨#[]⟩, .bool false, .bool false, .bool false, .bool false, .int .i64 0, .int .i64 0, .int .i64 0, .slice none 0 0] : Array Value) = Z := ⟨_, rfl⟩
      have zZ : Z.size = 19 := by rw [← hZ]; rfl
      have hb := below_alloc Y (.cells A 43)
      have hDY := (hb.block D (Array.getElem?_eq_some_iff.1 hI2).1).trans hI2
      gi_wp2_with (refine wpListIn_storeAll (letsAll_round l) rfl 43 _ _ rfl Z A 19 rfl rfl (by kernel_rfl) zZ zA honeA ?_)
      exact ⟨StaysG.ofBelow hb, ⟨hI.new hb, hDY⟩, Y.heap.size, (show ObjAt _ _ (encE (fe x)) from by rw [show encE (fe x) = A.toList from by rw [← hA]]; exact ObjAt.new Y A 43), rfl⟩
    case hbody2 =>
      rintro l pre x a' Y hTp ⟨⟨⟨B, rs, h1⟩, h2, h3⟩, hKY⟩ ⟨Bx, oX, rfl⟩
      obtain ⟨A, hA⟩ : ∃ A, (encE (fe x)).toArray = A := ⟨_, rfl⟩
      rw [hA] at oX
      rw [hA]
      have zA : A.size = 19 := by rw [← hA]; rfl
      obtain ⟨t1, t2⟩ := hkT _ hTp
      obtain ⟨g1, g2, g3⟩ := hkR x
      have HK := mKeepI h1.real (fe x) A hA ((hov x).below h3) g2 g1 (fun e he => by
        rcases (fold_mem (fun y => (fe y).e) pre [] e).1 he with c | ⟨y, hy, rfl⟩
        · cases c
        · intro c
          rw [List.map_append, List.nodup_append] at t1
          exact t1.2.2 _ (List.mem_map.2 ⟨y, hy, rfl⟩) _ (List.mem_map.2 ⟨x, List.mem_singleton.2 rfl, rfl⟩) c) (by
        dsimp only
        rw [fold_length]
        rw [List.length_append, List.length_singleton] at t2
        rw [List.length_nil]
        omega) g3
      dsimp only at HK
      have cM := h2.cell 0 rfl
      gi_wp2_with (first
        | (refine wpListIn_loadAll (letsAll_round l) rfl 43 _ rfl Bx 19 A rfl oX Tryz.isAgg43 Tryz.sizeOf43 zA ?_)
        | (refine ⟨trivial, ?_⟩; gi_at_call 70; refine (CallsIn.inRound l (callsIn_wide.2 HK)).mono ?_; rintro e w5 ⟨rfl, B5, q5, hq5, hs5⟩))
      obtain ⟨q1, q2⟩ := BuiltA.step hpm h1 h2 h3 hs5
      have hD5 : w5.heap[D]? = some (.deferred (some [])) := (hs5.keeps.block D (Array.getElem?_eq_some_iff.1 hKY).1 (fun hc => by have := h1.real.own_user D hc _ hKY; cases this)).trans hKY
      exact ⟨q2 hGk, q1, hD5⟩
    case hdone2 =>
      rintro D2 ys Y hD2 hS2 ⟨hB2, hKY⟩ hK2
      have cM := hB2.cell.cell 0 rfl
      gi_wp2
      have hDD2 : D ≠ D2 := by
        have := (Array.getElem?_eq_some_iff.1 hKY).1
        omega
      have hsp2 : SysStep W.heap.size Y (Y.putObj D2 (.deferred none)) := SysStep.put hD2 hK2 rfl _
      have hKZ : (Y.putObj D2 (.deferred none)).heap[D]? = some (.deferred (some [])) := hsp2.same D _ hKY (.inl hDl)
      have hsp : SysStep w.heap.size (Y.putObj D2 (.deferred none)) ((Y.putObj D2 (.deferred none)).putObj D (.deferred none)) := SysStep.put (Nat.le_trans hb3.size hD) hKZ rfl _
      have hB4 := (hB2.sys hsp2 hBA.below.size).sys hsp (Nat.le_refl _)
      obtain ⟨B, rs, hN⟩ := hB4.ex
      refine ⟨by simp, .inl ⟨_, _, rfl, run_takeDeferred hK2, ?_⟩⟩
      refine ⟨by simp, .inl ⟨_, _, rfl, run_takeDeferred hKZ, ?_⟩⟩
      exact ⟨_, results_tmp rfl _ _ _, p, B, rs, xs, ys, rfl, hS, hS2, hDD ▸ hN, hB4.below⟩
end Go.Proofs.YtaodjnkjjmhecaaGreatDoor
namespace Go.Proofs.YtaodjnkjjmhecaaGreatDoor
open Go.RowKit
set_option linter.unusedVariables false
def Turns (p : Nat) (F R : Nat → Prop) (a : Option Addr) (m : MapN) (v : Value) (w : World) (en : Ending) (w' : World) : Prop :=
  en = .returned v ∧ ∃ F' R', MapAt w' p F' R' m ∧ Keeps F w w' ∧ (∀ k, F' k → F k ∨ w.heap.size ≤ k) ∧ ∀ k, R' k → R k ∨ At a k ∨ w.heap.size ≤ k
theorem NewMap.mapAt {w w' : World} {p : Nat} {B : Slots} {rs : List EvR} {m : MapN} (h : NewMap w w' p B rs m) : ∃ F R, MapAt w' p F R m ∧ (∀ k, F k → w.heap.size ≤ k) ∧ ∀ k, R k → w.heap.size ≤ k :=
  ⟨OwnB p B, OverB rs, ⟨.inl rfl, fun k hk => hk.elim (h.real.own_lt k) (h.real.over_lt k), fun k h1 h2 => h.real.over_apart k h2 h1, B, rs, h.real, fun i b e => .inr ⟨i, e⟩, fun r hr k hk => ⟨r, hr, hk⟩⟩, h.own, h.over⟩
theorem turns_of {p : Nat} {F R : Nat → Prop} {a : Option Addr} {m m' : MapN} {v : Value} {w w' : World} (h : MapAt w p F R m) {B : Slots} {rs : List EvR} (hF : ∀ i b, B i = some b → F b) (hR : ∀ r ∈ rs, ∀ k, At (overA r) k → R k) {B' : Slots} {rs' : List EvR} (s : Step w w' p B rs B' rs' m') : Turns p F R a m' v w (.returned v) w' := by
  obtain ⟨F', R', h1, h2, h3, h4⟩ := s.turns hF hR h
  exact ⟨rfl, F', R', h1, h2, h3, fun k hk => (h4 k hk).imp id .inr⟩
theorem mNewC (w : World) : Calls Tryz.prog 17 #[] w fun en w' => ∃ p F R, en = .returned (.pointer (some ⟨p, 0, none⟩)) ∧ MapAt w' p F R MapN.none ∧ (∀ k, F k ∨ R k → w.heap.size ≤ k) ∧ Below w.heap.size w w' := by
  refine (mNewI w).mono ?_
  rintro e w' ⟨p, rfl, hR, hb, hp⟩
  have hN : NewMap w w' p noSlots [] MapN.none := ⟨hR, fun k hk => by
    rcases hk with rfl | ⟨i, e⟩
    · exact hp
    · exact absurd e (by simp [noSlots]), fun k hk => (by obtain ⟨r, hr, -⟩ := hk; cases hr)⟩
  obtain ⟨F, R, h1, h2, h3⟩ := hN.mapAt
  exact ⟨p, F, R, rfl, h1, fun k hk => hk.elim (h2 k) (h3 k), hb⟩
theorem mApplyC (p : Nat) (F R : Nat → Prop) (m : MapN) (r : EvR) (A : Array Value) (hA : (encE r).toArray = A) (w : World) (h : MapAt w p F R m) (hE : RowOf encD 3 w r.a r.e.over.length r.c r.e.over) (hF : ∀ k, At (overA r) k → ¬ F k) (hl : lightE r.e = true) (hTb : OTb w) (hdn : m.dead.length ≤ 900000) :
    Calls Tryz.prog 19 #[.pointer (some ⟨p, 0, none⟩), .agg A] w (Turns p F R (overA r) (applyM m r.e).1 (.tuple #[.bool (applyM m r.e).2.1, .int .i64 (applyM m r.e).2.2]) w) := by
  obtain ⟨B, rs, hR, h1, h2⟩ := h.real
  refine (mApplyI hR r A hA hE (fun k hk hc => hF k hk ?_) hl hTb hdn).mono ?_
  · rcases hc with rfl | ⟨i, e⟩
    · exact h.own
    · exact h1 i k e
  · rintro e w' ⟨rfl, B', rs', s⟩
    exact turns_of h h1 h2 s
end Go.Proofs.YtaodjnkjjmhecaaGreatDoor
