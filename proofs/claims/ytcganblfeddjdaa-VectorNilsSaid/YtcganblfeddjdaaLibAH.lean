/- Contracts and plain words that the laws' proofs stand on, put together. -/
import Derived.Test.YtcganblfeddjdaaVecTake
import Derived.Test.YtcganblfeddjdaaLibAG
import Derived.Test.YtcganblfeddjdaaLibAA
import Derived.Test.YtcganblfeddjdaaLibAF
import Derived.Test.YtcganblfeddjdaaShelf
import Derived.Shelf.SlSortCmp.WholeK
import Derived.Shelf.SlSortCmp.NoneTotal
import Derived.Deep.RegionHeld3
import Derived.Deep.DeepCutAuto
import Derived.Test.YtcganblfeddjdaaLibAD
/- Join: each number becomes the greater one of both. -/
namespace Go.Proofs.Ytcganblfeddjdaa
open Go.RowKit
set_option linter.unusedVariables false

set_option maxRecDepth 100000 in
theorem vJoinA {v2 : Value} {mv : Option Nat} {G : Nat → Prop} {m : List DotN} (p : Nat) (F : Nat → Prop) (l : List DotN) (w : World) (h : VecAt w p F l) (h2 : ArgV w v2 mv G m) (hd : ∀ k, F k → ¬ G k) :
    Calls Try.prog 24 #[.pointer (some ⟨p, 0, none⟩), v2] w (Raised p F (joinV l m) (.tuple #[]) w) := by
  have HA := vAllC h2
  have hE := fun ww (hb : Below w.heap.size w ww) => (show VecAt ww p F l from h.keeps (Keeps.new (F := fun _ => False) hb) (fun _ _ h => h))
  have hlt := h.lt
  have hok := h.ok
  have hmo := h2.ok
  rcases h2.nums with ⟨rfl, rfl⟩ | ⟨B, n, D, rfl, hB, hm, hD⟩
  · have hrg := run_range_nilMap (P := Try.prog) w 68 25 3 Try.underlying68
    have hnx : ∀ ty, (Instr.next (.pointer (some ⟨w.heap.size, 0, none⟩)) false ty).run Try.prog (w.alloc (.mapIter none 0 #[] 0)) = _ := fun ty => run_next_nilMap _ ty 0 0 #[]
    clear h h2
    go_enter Try.func24, Try.ntmps24
    go_wp2_with (go_at_call 42; (with_reducible refine HA.mono ?_); rintro e w1 ⟨rfl, rfl⟩)
    refine wp_loop_rounds 1 ?_
    rw [rounds_succ]
    go_wp2
    go_end0
    have hb := below_alloc w (.mapIter none 0 #[] 0)
    exact ⟨rfl, F, hE _ hb, Keeps.new hb, fun k h => .inl h⟩
  · have hBl := hm.lt
    have hBF : ¬ F B := fun c => hd B c hB
    go_enter Try.func24, Try.ntmps24
    go_wp2_with (first
      | (go_at_call 42; (with_reducible refine HA.mono ?_); rintro e w1 ⟨rfl, rfl⟩)
      | (at_range; refine wpList_range_own _ rfl _ 68 rfl 25 3 keyedActor Try.underlying68 _ B n _ rfl hm ?_; intro w0 hrg0 hg0 hs0))
    go_frame
    go_loopw [5] (fun _ wr => ∃ (left : Lit → Bool) (cnt : Nat) (R : List DotN) (F' : Nat → Prop), wr.ranges Try.prog 25 (plainElem Try.prog 3) B w.heap.size n D left cnt ∧ MetV m left R ∧ VecAt wr p F' (joinV l R) ∧ Keeps F w wr ∧ (∀ k, F' k → F k ∨ w.heap.size < k))
      (fun _ wr => wr.rangeLeft B w.heap.size)
    case atStart =>
      have k0 := (Keeps.ofGrownBy hg0).mono (G := fun _ => False) (fun k _ e => by cases e)
      exact ⟨_, _, [], F, hrg0, MetV.start hD hmo, h.keeps k0 (fun _ _ h => h), k0.mono (fun _ _ h => h.elim), fun k h => .inl h⟩
    case round =>
      obtain ⟨left, cnt, R, F', hrg, hmet, hv, hk, hF'⟩ := hrel
      clear hrg0 hg0 hs0 HA hE h h2
      go_wp2_with (first
        | (at_next; refine wpList_next_actors rfl rfl _ rfl B w.heap.size n D _ _ rfl hrg ?_ ?_))
      · intro hc0 hl0
        go_wp2
        go_end0
        have e := join_any hok (hmet.all hl0)
        exact ⟨rfl, F', e ▸ hv, hk, fun k h => (hF' k h).imp id Nat.le_of_lt⟩
      · intro d i c w1 cnt1 hfd hfi hlk hat hrg1 hlt1 hg1 hs1 hen
        obtain ⟨hmem, hmet1⟩ := hmet.step hD hmo hfd hfi hlk hat
        have hright := hmo.right _ hmem
        have hfc : is64 c := by have := right_range hright; unfold is64; dsimp only at this; omega
        have k1 := Keeps.ofGrownBy hg1
        have hv1 := hv.keeps k1 (fun k hk1 e => by have := Option.some.inj e; subst this; exact (hF' _ hk1).elim (fun h => absurd (hlt _ h) (Nat.lt_irrefl _)) (fun h => absurd h (Nat.lt_irrefl _)))
        have kk1 := hk.trans k1 (fun k hk1 e => by have := Option.some.inj e; omega)
        have oa := ObjAt.new w1 #[.int .i64 d, .int .i64 i] 25
        have ba := below_alloc w1 (.cells #[.int .i64 d, .int .i64 i] 25)
        have hv2 := hv1.keeps (Keeps.new (F := fun _ => False) ba) (fun _ _ h => h)
        have hrg2 := hrg1.alloc (.cells #[.int .i64 d, .int .i64 i] 25)
        have kk2 := kk1.trans (Keeps.new (F := F) ba) (fun _ _ h => h)
        have u0 := oa.cell 0 rfl; have u1 := oa.cell 1 rfl
        have HR := fun ww hv => vRaiseC p F' (joinV l R) ⟨d, i, c⟩ ww hv ⟨hfd, hfi, hfc⟩
        rw [← joinV_snoc] at HR
        unfold Raised at HR
        dsimp only at HR
        have hlt2 := Nat.lt_trans hrg1.lt oa.lt
        clear hk hv hv1 hrg1 hmet hright hfc
        go_wp2_with (go_at_call 13; (with_reducible refine (HR _ hv2).mono ?_); rintro e w3 ⟨rfl, F3, hv3, k3, hn3⟩)
        have hrg3 := k3.ranges (b := B) (r := w.heap.size) (fun c => (hF' _ c).elim hBF (fun h => by omega)) (fun c => (hF' _ c).elim (fun h => absurd (hlt _ h) (Nat.lt_irrefl _)) (fun h => absurd h (Nat.lt_irrefl _))) hrg2
        go_roundw
        case rel =>
          exact ⟨_, cnt1, _, F3, hrg3, hmet1, hv3, kk2.trans k3 (fun k hk1 h => (hF' k h).elim id (fun h => by omega)), fun k h => (hn3 k h).elim (hF' k) (fun h => .inr (Nat.lt_of_lt_of_le hlt2 h))⟩
        case measure => rw [hrg3.left_eq, hrg.left_eq]; exact hlt1
end Go.Proofs.Ytcganblfeddjdaa

/- Rounds over a vector's numbers: joined with a nil one, covered, summed up, met. -/
namespace Go.Proofs.Ytcganblfeddjdaa
open Go.RowKit
set_option linter.unusedVariables false

set_option maxRecDepth 100000 in
theorem vNilJoinA {v2 : Value} {mv : Option Nat} {G : Nat → Prop} {m : List DotN} (w : World) (h2 : ArgV w v2 mv G m) :
    Calls Try.prog 24 #[.pointer none, v2] w fun e w' => e = .returned (.tuple #[]) ∧ Below w.heap.size w w' := by
  have HA := vAllC h2
  have hmo := h2.ok
  rcases h2.nums with ⟨rfl, rfl⟩ | ⟨B, n, D, rfl, hB, hm, hD⟩
  · have hb := below_alloc w (.mapIter none 0 #[] 0)
    have hrg := run_range_nilMap (P := Try.prog) w 68 25 3 Try.underlying68
    have hnx : ∀ ty, (Instr.next (.pointer (some ⟨w.heap.size, 0, none⟩)) false ty).run Try.prog (w.alloc (.mapIter none 0 #[] 0)) = _ := fun ty => run_next_nilMap _ ty 0 0 #[]
    clear h2
    go_enter Try.func24, Try.ntmps24
    go_wp2_with (go_at_call 42; (with_reducible refine HA.mono ?_); rintro e wA ⟨rfl, rfl⟩)
    refine wp_loop_rounds 1 ?_
    rw [rounds_succ]
    go_wp2
    go_end0
    exact ⟨rfl, hb⟩
  · have hBl := hm.lt
    go_enter Try.func24, Try.ntmps24
    go_wp2_with (first
      | (go_at_call 42; (with_reducible refine HA.mono ?_); rintro e wA ⟨rfl, rfl⟩)
      | (at_range; refine wpList_range_own _ rfl _ 68 rfl 25 3 keyedActor Try.underlying68 _ B n _ rfl hm ?_; intro w0 hrg0 hg0 hs0))
    go_frame
    go_loopw [5] (fun _ ww => ∃ (left : Lit → Bool) (cnt : Nat) (R : List DotN), ww.ranges Try.prog 25 (plainElem Try.prog 3) B w.heap.size n D left cnt ∧ MetV m left R ∧ Below w.heap.size w ww)
      (fun _ ww => ww.rangeLeft B w.heap.size)
    case atStart => exact ⟨_, _, [], hrg0, MetV.start hD hmo, (Keeps.ofGrownBy hg0).below (Nat.le_refl _) (fun k _ e => by cases e)⟩
    case round =>
      obtain ⟨left, cnt, R, hrg, hmet, hb⟩ := hrel
      clear hrg0 hg0 hs0 HA h2
      go_wp2_with (first
        | (at_next; refine wpList_next_actors rfl rfl _ rfl B w.heap.size n D _ _ rfl hrg ?_ ?_))
      · intro hc0 hl0
        go_wp2
        go_end0
        exact ⟨rfl, hb⟩
      · intro d i c w1 cnt1 hfd hfi hlk hat hrg1 hlt1 hg1 hs1 hen
        obtain ⟨hmem, hmet1⟩ := hmet.step hD hmo hfd hfi hlk hat
        have hright := hmo.right _ hmem
        have hfc : is64 c := by have := right_range hright; unfold is64; dsimp only at this; omega
        have k1 := Keeps.ofGrownBy hg1
        have oa := ObjAt.new w1 #[.int .i64 d, .int .i64 i] 25
        have ba := below_alloc w1 (.cells #[.int .i64 d, .int .i64 i] 25)
        have hrg2 := hrg1.alloc (.cells #[.int .i64 d, .int .i64 i] 25)
        have u0 := oa.cell 0 rfl; have u1 := oa.cell 1 rfl
        have hb1 := hb.trans (grown_below_at hg1 (Nat.le_refl _) hb.size)
        have hb2 := hb1.trans (ba.mono hb1.size)
        have HR := fun ww => vNilRaise ww ⟨d, i, c⟩ ⟨hfd, hfi, hfc⟩
        dsimp only at HR
        clear hb hb1 hrg1 hmet hright hfc
        go_wp2_with (go_at_call 13; (with_reducible refine (HR _).mono ?_); rintro e w3 ⟨rfl, hx⟩)
        have hrg3 := (Keeps.new (F := fun _ => False) hx).ranges (fun h => h) (fun h => h) hrg2
        go_roundw
        case rel => exact ⟨_, cnt1, _, hrg3, hmet1, hb2.trans (hx.mono hb2.size)⟩
        case measure => rw [hrg3.left_eq, hrg.left_eq]; exact hlt1

set_option maxRecDepth 100000 in
theorem vCoversA {v1 v2 : Value} {mv1 mv : Option Nat} {F G : Nat → Prop} {l m : List DotN} (w : World) (h : ArgV w v1 mv1 F l) (h2 : ArgV w v2 mv G m) :
    Calls Try.prog 23 #[v1, v2] w fun e w' => e = .returned (.bool (coversV l m)) ∧ Below w.heap.size w w' := by
  have HA := vAllC h2
  have hmo := h2.ok
  rcases h2.nums with ⟨rfl, rfl⟩ | ⟨B, n, D, rfl, hB, hm, hD⟩
  · have hb := below_alloc w (.mapIter none 0 #[] 0)
    have e : coversV l [] = true := rfl
    rw [e]
    have hrg := run_range_nilMap (P := Try.prog) w 68 25 3 Try.underlying68
    have hnx : ∀ ty, (Instr.next (.pointer (some ⟨w.heap.size, 0, none⟩)) false ty).run Try.prog (w.alloc (.mapIter none 0 #[] 0)) = _ := fun ty => run_next_nilMap _ ty 0 0 #[]
    clear h2 h
    go_enter Try.func23, Try.ntmps23
    go_wp2_with (go_at_call 42; (with_reducible refine HA.mono ?_); rintro e wA ⟨rfl, rfl⟩)
    refine wp_loop_rounds 1 ?_
    rw [rounds_succ]
    go_wp2
    go_ret
    exact ⟨rfl, hb⟩
  · have hBl := hm.lt
    go_enter Try.func23, Try.ntmps23
    go_wp2_with (first
      | (go_at_call 42; (with_reducible refine HA.mono ?_); rintro e wA ⟨rfl, rfl⟩)
      | (at_range; refine wpList_range_own _ rfl _ 68 rfl 25 3 keyedActor Try.underlying68 _ B n _ rfl hm ?_; intro w0 hrg0 hg0 hs0))
    go_frame
    go_loopw [6] (fun _ ww => ∃ (left : Lit → Bool) (cnt : Nat) (R : List DotN), ww.ranges Try.prog 25 (plainElem Try.prog 3) B w.heap.size n D left cnt ∧ MetV m left R ∧ (∀ x ∈ R, x.seq ≤ getV l x.dev x.inc) ∧ Below w.heap.size w ww)
      (fun _ ww => ww.rangeLeft B w.heap.size)
    case atStart => exact ⟨_, _, [], hrg0, MetV.start hD hmo, (fun x hx => absurd hx List.not_mem_nil), (Keeps.ofGrownBy hg0).below (Nat.le_refl _) (fun k _ e => by cases e)⟩
    case round =>
      obtain ⟨left, cnt, R, hrg, hmet, hcov, hb⟩ := hrel
      clear hrg0 hg0 hs0 HA h2
      go_wp2_with (first
        | (at_next; refine wpList_next_actors rfl rfl _ rfl B w.heap.size n D _ _ rfl hrg ?_ ?_))
      · intro hc0 hl0
        have e := Lib.hid (covers_any (hmet.all hl0) hcov)
        go_wp2
        go_ret
        exact ⟨by rw [e.out]; rfl, hb⟩
      · intro d i c w1 cnt1 hfd hfi hlk hat hrg1 hlt1 hg1 hs1 hen
        obtain ⟨hmem, hmet1⟩ := hmet.step hD hmo hfd hfi hlk hat
        have hright := hmo.right _ hmem
        have hfc : is64 c := by have := right_range hright; unfold is64; dsimp only at this; omega
        have k1 := Keeps.ofGrownBy hg1
        have oa := ObjAt.new w1 #[.int .i64 d, .int .i64 i] 25
        have ba := below_alloc w1 (.cells #[.int .i64 d, .int .i64 i] 25)
        have hrg2 := hrg1.alloc (.cells #[.int .i64 d, .int .i64 i] 25)
        have u0 := oa.cell 0 rfl; have u1 := oa.cell 1 rfl
        have hb1 := hb.trans (grown_below_at hg1 (Nat.le_refl _) hb.size)
        have hb2 := hb1.trans (ba.mono hb1.size)
        have HG := vGetA (h.below hb2) d i hfd hfi
        have hnot := fun hc => covers_not (l := l) hmem hc
        have hstep := fun hc : c ≤ getV l d i => (show ∀ x ∈ R ++ [⟨d, i, c⟩], x.seq ≤ getV l x.dev x.inc from fun x hx => (List.mem_append.1 hx).elim (hcov x) (fun hx => by rw [List.mem_singleton] at hx; subst hx; exact hc))
        dsimp only at hnot
        generalize hGV : getV l d i = GV at *
        clear hb hb1 hrg1 hmet hright hfc hmem
        by_cases hc : c ≤ GV
        · have d1 : decide (GV < c) = false := decide_eq_false (by omega)
          have d2 : ¬ GV < c := by omega
          have hstep := hstep hc
          clear hnot hc
          go_wp2_with (go_at_call 18; (with_reducible refine HG.mono ?_); rintro e w3 ⟨rfl, hx⟩)
          have hrg3 := (Keeps.new (F := fun _ => False) hx).ranges (fun h => h) (fun h => h) hrg2
          go_roundw
          case rel => exact ⟨_, cnt1, _, hrg3, hmet1, hstep, hb2.trans (hx.mono hb2.size)⟩
          case measure => rw [hrg3.left_eq, hrg.left_eq]; exact hlt1
        · have d1 : decide (GV < c) = true := decide_eq_true (by omega)
          have d2 : GV < c := by omega
          have e := Lib.hid (hnot hc)
          clear hnot hc hstep hGV
          go_wp2_with (go_at_call 18; (with_reducible refine HG.mono ?_); rintro e w3 ⟨rfl, hx⟩)
          go_ret
          exact ⟨by rw [e.out]; rfl, hb2.trans (hx.mono hb2.size)⟩

set_option maxRecDepth 100000 in
theorem vSumA {v : Value} {mv : Option Nat} {G : Nat → Prop} {m : List DotN} (w : World) (h2 : ArgV w v mv G m) :
    Calls Try.prog 28 #[v] w fun e w' => e = .returned (.int .i64 (sumV m)) ∧ Below w.heap.size w w' := by
  have HA := vAllC h2
  have hmo := h2.ok
  rcases h2.nums with ⟨rfl, rfl⟩ | ⟨B, n, D, rfl, hB, hm, hD⟩
  · have hb := below_alloc w (.mapIter none 0 #[] 0)
    have e : sumV [] = 0 := rfl
    rw [e]
    have hrg := run_range_nilMap (P := Try.prog) w 68 25 3 Try.underlying68
    have hnx : ∀ ty, (Instr.next (.pointer (some ⟨w.heap.size, 0, none⟩)) false ty).run Try.prog (w.alloc (.mapIter none 0 #[] 0)) = _ := fun ty => run_next_nilMap _ ty 0 0 #[]
    clear h2
    go_enter Try.func28, Try.ntmps28
    go_wp2_with (go_at_call 42; (with_reducible refine HA.mono ?_); rintro e wA ⟨rfl, rfl⟩)
    refine wp_loop_rounds 1 ?_
    rw [rounds_succ]
    go_wp2
    go_ret
    exact ⟨rfl, hb⟩
  · have hBl := hm.lt
    have hszD := hD.size
    have hmost := hmo.most
    go_enter Try.func28, Try.ntmps28
    go_wp2_with (first
      | (go_at_call 42; (with_reducible refine HA.mono ?_); rintro e wA ⟨rfl, rfl⟩)
      | (at_range; refine wpList_range_own _ rfl _ 68 rfl 25 3 keyedActor Try.underlying68 _ B n _ rfl hm ?_; intro w0 hrg0 hg0 hs0))
    go_frame
    go_loopw [3] (fun s ww => ∃ (left : Lit → Bool) (cnt : Nat) (R : List DotN), s = .int .i64 (sumV R) ∧ ww.ranges Try.prog 25 (plainElem Try.prog 3) B w.heap.size n D left cnt ∧ MetV m left R ∧ R.length + cnt ≤ 67108864 ∧ Below w.heap.size w ww)
      (fun _ ww => ww.rangeLeft B w.heap.size)
    case atStart => exact ⟨_, _, [], rfl, hrg0, MetV.start hD hmo, by simp; omega, (Keeps.ofGrownBy hg0).below (Nat.le_refl _) (fun k _ e => by cases e)⟩
    case round =>
      obtain ⟨left, cnt, R, rfl, hrg, hmet, hcnt, hb⟩ := hrel
      clear hrg0 hg0 hs0 HA h2 hszD hmost
      go_wp2_with (first
        | (at_next; refine wpList_next_actors rfl rfl _ rfl B w.heap.size n D _ _ rfl hrg ?_ ?_))
      · intro hc0 hl0
        have e := Lib.hid (sum_perm (hmet.perm hmo hl0))
        go_wp2
        go_ret
        exact ⟨by rw [e.out]; rfl, hb⟩
      · intro d i c w1 cnt1 hfd hfi hlk hat hrg1 hlt1 hg1 hs1 hen
        obtain ⟨hmem, hmet1⟩ := hmet.step hD hmo hfd hfi hlk hat
        have hb1 := hb.trans (grown_below_at hg1 (Nat.le_refl _) hb.size)
        have hq : IntKind.i64.wrap (sumV R + c) = sumV (R ++ [⟨d, i, c⟩]) := by
          rw [sum_snoc]
          dsimp only
          have h1 := sum_range (R := R) (fun x hx => hmo.right x ((hmet.mem x).1 hx).1)
          have h2 := right_range (hmo.right _ hmem)
          dsimp only at h2
          rw [IntKind.wrap_i64]
          omega
        have hc1 : (R ++ [(⟨d, i, c⟩ : DotN)]).length + cnt1 ≤ 67108864 := by simp; omega
        generalize R ++ [(⟨d, i, c⟩ : DotN)] = R2 at *
        generalize sumV R = s1 at *
        generalize hs2 : sumV R2 = s2 at *
        have HS := Lib.hid hs2
        clear hs2 hmem hmet hcnt
        go_wp2
        go_roundw
        case rel => exact ⟨_, cnt1, R2, by rw [HS.out], hrg1, hmet1, hc1, hb1⟩
        case measure => rw [hrg1.left_eq, hrg.left_eq]; exact hlt1

set_option maxRecDepth 100000 in
theorem vCopyA {v : Value} {mv : Option Nat} {G : Nat → Prop} {m : List DotN} (w : World) (h2 : ArgV w v mv G m) :
    Calls Try.prog 21 #[v] w (MadeV m w) := by
  have HN := vNewC w
  have hlt := h2.lt
  have e := join_nil h2.ok
  unfold MadeV at *
  go_enter Try.func21, Try.ntmps21
  go_wp2_with (first
    | (go_at_call 9; (with_reducible refine HN.mono ?_); rintro e w1 ⟨p, F, rfl, hv, hF, hx⟩; have ha := h2.below hx; have HJ := vJoinA p F [] w1 hv ha (fun k h1 h2 => absurd (hlt k h2) (Nat.not_lt.2 (hF k h1))); unfold Raised at HJ)
    | (go_at_call 24; (with_reducible refine HJ.mono ?_); rintro e w2 ⟨rfl, F2, hv2, k2, hn2⟩))
  go_ret
  exact ⟨p, F2, rfl, e ▸ hv2, fun k h => (hn2 k h).elim (hF k) (fun h => Nat.le_trans hx.size h), hx.trans (k2.below hx.size (fun k _ h => hF k h))⟩
end Go.Proofs.Ytcganblfeddjdaa

/- Meet: a new vector with the lesser number of both. -/
namespace Go.Proofs.Ytcganblfeddjdaa
open Go.RowKit
set_option linter.unusedVariables false

set_option maxRecDepth 100000 in
theorem vMeetA {v1 v2 : Value} {mv1 mv2 : Option Nat} {G1 G2 : Nat → Prop} {l m : List DotN} (w : World) (h1 : ArgV w v1 mv1 G1 l) (h2 : ArgV w v2 mv2 G2 m) :
    Calls Try.prog 22 #[v1, v2] w (MadeV (meetV l m) w) := by
  have HN := vNewC w
  have hmo := h1.ok
  have hlt1 := h1.lt
  have hlt2 := h2.lt
  unfold MadeV at HN
  rcases h1.nums with ⟨rfl, rfl⟩ | ⟨B, n, D, rfl, hB, hm, hD⟩
  · have hrg := fun (w : World) => run_range_nilMap (P := Try.prog) w 68 25 3 Try.underlying68
    have hnx : ∀ (w : World) ty, (Instr.next (.pointer (some ⟨w.heap.size, 0, none⟩)) false ty).run Try.prog (w.alloc (.mapIter none 0 #[] 0)) = _ := fun w ty => run_next_nilMap w ty 0 0 #[]
    rw [meet_nil1]
    go_enter Try.func22, Try.ntmps22
    go_wp2_with (first
      | (go_at_call 9; (with_reducible refine HN.mono ?_); rintro e w1 ⟨p, F, rfl, hv, hF, hx⟩; have HA := vAllC (h1.below hx))
      | (go_at_call 42; (with_reducible refine HA.mono ?_); rintro e wA ⟨rfl, rfl⟩))
    refine wp_loop_rounds 1 ?_
    rw [rounds_succ]
    go_wp2
    go_ret
    have hb := below_alloc w1 (.mapIter none 0 #[] 0)
    exact ⟨p, F, rfl, hv.keeps (Keeps.new (F := fun _ => False) hb) (fun _ _ h => h), hF, hx.trans (hb.mono hx.size)⟩
  · have hBl := hm.lt
    go_enter Try.func22, Try.ntmps22
    go_wp2_with (first
      | (go_at_call 9; (with_reducible refine HN.mono ?_); rintro e wn ⟨p, F, rfl, hv0, hF, hx⟩; have HA := vAllC (h1.below hx); have hm1 := (Keeps.new (F := fun _ => False) hx).grownBy (b := B) (fun h => h) hm)
      | (go_at_call 42; (with_reducible refine HA.mono ?_); rintro e wA ⟨rfl, rfl⟩)
      | (at_range; refine wpList_range_own _ rfl _ 68 rfl 25 3 keyedActor Try.underlying68 _ B n _ rfl hm1 ?_; intro w0 hrg0 hg0 hs0))
    go_frame
    have hFl := hv0.lt
    have hBF : ¬ F B := fun c => absurd hBl (Nat.not_lt.2 (hF B c))
    have hBl1 := hm1.lt
    have h2n := h2.below hx
    go_loopw [7] (fun _ ww => ∃ (left : Lit → Bool) (cnt : Nat) (R : List DotN) (F' : Nat → Prop), ww.ranges Try.prog 25 (plainElem Try.prog 3) B wn.heap.size n D left cnt ∧ MetV l left R ∧ VecAt ww p F' (joinV [] (R.map (lessM m))) ∧ Keeps F wn ww ∧ (∀ k, F' k → F k ∨ wn.heap.size < k))
      (fun _ ww => ww.rangeLeft B wn.heap.size)
    case atStart =>
      have k0 := (Keeps.ofGrownBy hg0).mono (G := fun _ => False) (fun k _ e => by cases e)
      exact ⟨_, _, [], F, hrg0, MetV.start hD hmo, hv0.keeps k0 (fun _ _ h => h), k0.mono (fun _ _ h => h.elim), fun k h => .inl h⟩
    case round =>
      obtain ⟨left, cnt, R, F', hrg, hmet, hv, hk, hF'⟩ := hrel
      clear hrg0 hg0 hs0 HA HN h1
      go_wp2_with (first
        | (at_next; refine wpList_next_actors rfl rfl _ rfl B wn.heap.size n D _ _ rfl hrg ?_ ?_))
      · intro hc0 hl0
        go_wp2
        go_ret
        have e := meet_any hmo h2.ok (hmet.all hl0)
        have hb := hx.trans (hk.below hx.size (fun k _ h => hF k h))
        exact ⟨p, F', rfl, e ▸ hv, fun k h => (hF' k h).elim (hF k) (fun h => Nat.le_trans hx.size (Nat.le_of_lt h)), hb⟩
      · intro d i c w1 cnt1 hfd hfi hlk hat hrg1 hcl1 hg1 hs1 hen
        obtain ⟨hmem, hmet1⟩ := hmet.step hD hmo hfd hfi hlk hat
        have hright := right_range (hmo.right _ hmem)
        dsimp only at hright
        have hgm := getV_range h2.ok d i
        have k1 := Keeps.ofGrownBy hg1
        have hv1 := hv.keeps k1 (fun k hk1 e => by have := Option.some.inj e; subst this; exact (hF' _ hk1).elim (fun h => absurd (hFl _ h) (Nat.lt_irrefl _)) (fun h => absurd h (Nat.lt_irrefl _)))
        have kk1 := hk.trans k1 (fun k hk1 e => by have := Option.some.inj e; omega)
        have oa := ObjAt.new w1 #[.int .i64 d, .int .i64 i] 25
        have ba := below_alloc w1 (.cells #[.int .i64 d, .int .i64 i] 25)
        have hv2 := hv1.keeps (Keeps.new (F := fun _ => False) ba) (fun _ _ h => h)
        have hrg2 := hrg1.alloc (.cells #[.int .i64 d, .int .i64 i] 25)
        have kk2 := kk1.trans (Keeps.new (F := F) ba) (fun _ _ h => h)
        have h22 := h2n.keeps kk2 (fun k hk1 hk2 => absurd (hlt2 k hk1) (Nat.not_lt.2 (hF k hk2)))
        have hl2 := Nat.lt_trans hrg1.lt oa.lt
        have hF1 : ¬ F' w1.heap.size := fun c => absurd (hv1.lt _ c) (Nat.lt_irrefl _)
        have hnB : ¬ F' B := fun c => (hF' _ c).elim hBF (fun h => by omega)
        have hnr : ¬ F' wn.heap.size := fun c => (hF' _ c).elim (fun h => absurd (hFl _ h) (Nat.lt_irrefl _)) (fun h => absurd h (Nat.lt_irrefl _))
        have HR := fun ww hv => vRaiseC p F' (joinV [] (R.map (lessM m))) (lessM m ⟨d, i, c⟩) ww hv ⟨hfd, hfi, by unfold is64 lessM; dsimp only; omega⟩
        rw [← joinV_snoc] at HR
        have eR : R.map (lessM m) ++ [lessM m (⟨d, i, c⟩ : DotN)] = (R ++ [(⟨d, i, c⟩ : DotN)]).map (lessM m) := by simp
        rw [eR] at HR
        unfold Raised lessM at HR
        dsimp only at HR
        have HG := fun ww (hh : ArgV ww v2 mv2 G2 m) => vGetA hh d i hfd hfi
        generalize getV m d i = GV at *
        generalize hw2 : w1.alloc (.cells #[.int .i64 d, .int .i64 i] 25) = w2 at *
        have hK1 : Keeps F' w2 w2.drew := Keeps.new (Below.refl _ _).drew
        have hB1 : Below w2.heap.size w2 w2.drew := (Below.refl _ _).drew
        have hS0 : ∀ w', Keeps F' w2 w' → w'.cell? ⟨w1.heap.size, 0, none⟩ = some (.int .i64 d) ∧ w'.cell? ⟨w1.heap.size, 1, none⟩ = some (.int .i64 i) := fun w' h => ⟨(oa.keeps h hF1).cell 0 rfl, (oa.keeps h hF1).cell 1 rfl⟩
        have u0 := oa.cell 0 rfl; have u1 := oa.cell 1 rfl
        clear hs1 hk hv hv1 hrg1 hmet hright hgm eR hfd hfi hlk hat hmem
        go_wp2_with fail
        go_region_held3 (fun w' => w'.cell? ⟨w1.heap.size, 0, none⟩ = some (.int .i64 d) ∧ w'.cell? ⟨w1.heap.size, 1, none⟩ = some (.int .i64 i)) (first | exact hS0 _ hK1)
          (first
            | (go_at_call 18; (with_reducible refine (HG _ (h22.below hB1)).mono ?_); rintro e w3 ⟨rfl, hx3⟩; have hB2 := hB1.trans (hx3.mono hB1.size); have hK1 : Keeps F' w2 w3 := Keeps.new hB2; have hv3 : VecAt w3 p F' _ := hv2.keeps (Keeps.new (F := fun _ => False) hB2) (fun _ _ h => h))
            | (go_at_call 13; (with_reducible refine (HR _ hv3).mono ?_); rintro e w4 ⟨rfl, F4, hv4, k4, hn4⟩; have hK1 := hK1.trans k4 (fun _ _ h => h)))
        all_goals (
          have hrg3 := hK1.ranges (b := B) (r := wn.heap.size) hnB hnr hrg2
          go_wp2
          go_roundw)
        case rel =>
          exact ⟨_, cnt1, _, F4, hrg3, hmet1, hv4, kk2.trans hK1 (fun k hk1 h => (hF' k h).elim id (fun h => by omega)), fun k h => (hn4 k h).elim (hF' k) (fun h => .inr (Nat.lt_of_lt_of_le hl2 (Nat.le_trans hB2.size h)))⟩
        case measure => rw [hrg3.left_eq, hrg.left_eq]; exact hcl1
end Go.Proofs.Ytcganblfeddjdaa

/- Marks: a vector's actors in order, with their numbers: the map's round in whatever order, and slices.SortFunc. -/
namespace Go.Proofs.Ytcganblfeddjdaa
open Go.RowKit Go.Sort
set_option linter.unusedVariables false

def ordM (x y : DotN) : Int := cmpAG x.dev x.inc y.dev y.inc

set_option maxRecDepth 100000 in
theorem markOrderG (x y : DotN) (w : World) :
    Calls Try.prog 44 #[.agg #[.int .i64 x.dev, .int .i64 x.inc, .int .i64 x.seq], .agg #[.int .i64 y.dev, .int .i64 y.inc, .int .i64 y.seq]] w fun en w' => en = .returned (.int .i64 (ordM x y)) ∧ Grows w w' := by
  obtain ⟨o1, o2, hb⟩ := two_objs w #[.int .i64 x.dev, .int .i64 x.inc, .int .i64 x.seq] #[.int .i64 y.dev, .int .i64 y.inc, .int .i64 y.seq] 33 33
  have u0 := o1.cell 0 rfl; have u1 := o1.cell 1 rfl; have u2 := o1.cell 2 rfl
  have v0 := o2.cell 0 rfl; have v1 := o2.cell 1 rfl; have v2 := o2.cell 2 rfl
  have hg : Grows w ((w.alloc (.cells #[.int .i64 x.dev, .int .i64 x.inc, .int .i64 x.seq] 33)).alloc (.cells #[.int .i64 y.dev, .int .i64 y.inc, .int .i64 y.seq] 33)) := (Grows.alloc w _).trans (Grows.alloc _ _)
  clear o1 o2 hb
  have H1 := fun w => dotCompareG x.dev x.inc y.dev y.inc w
  unfold ordM
  generalize cmpAG x.dev x.inc y.dev y.inc = C1 at *
  go_enter Try.func44, Try.ntmps44
  go_wp2_with (go_at_call 45; (with_reducible refine (H1 _).mono ?_); rintro e w1 ⟨rfl, hx⟩; have hg := hg.trans hx)
  go_ret
  exact ⟨rfl, hg⟩

theorem ordM_less (x y : DotN) : ltOf ordM x y = aheadD x y := by
  show decide (ordM x y < 0) = _
  unfold ordM cmpAG cmpN
  rw [Bool.eq_iff_iff, decide_eq_true_iff, aheadD_iff]
  repeat' split
  all_goals first | omega | (constructor <;> intros <;> first | omega | contradiction)
theorem swoM : SWO (ltOf ordM) where
  irrefl x := by rw [ordM_less, ahead_irrefl]
  trans x y z h1 h2 := by rw [ordM_less, aheadD_iff] at *; omega
  ntrans x y z h1 h2 := by rw [ordM_less, aheadD_no] at *; omega

theorem marks_sorted {l d : List DotN} (hl : OkV l) (hp : d.Perm l) (hs : d.Pairwise fun x y => aheadD y x = false) : d = l := by
  have hnd : d.Nodup := hp.nodup_iff.2 hl.ord.nodup
  have ho : OrdV d := List.Pairwise.imp_of_mem (fun {a b} ha hb h => by
    obtain ⟨h1, h2⟩ := h
    rw [aheadD_no] at h1
    rw [aheadD_iff]
    by_cases e : a.dev = b.dev ∧ a.inc = b.inc
    · have g1 := getV_mem hl.ord (hp.mem_iff.1 ha)
      have g2 := getV_mem hl.ord (hp.mem_iff.1 hb)
      rw [e.1, e.2, g2] at g1
      exact absurd (DotN.ext' e.1 e.2 g1.symm) h2
    · omega) (List.Pairwise.and hs hnd)
  exact sorted_unique ho.sorted hl.ord.sorted fun x => hp.mem_iff

set_option maxHeartbeats 2000000 in
set_option maxRecDepth 100000 in
theorem vMarksA {v : Value} {mv : Option Nat} {G : Nat → Prop} {m : List DotN} (w : World) (h2 : ArgV w v mv G m) :
    Calls Try.prog 15 #[v] w (GivesZ encD 3 33 m m.length w) := by
  have HA := vAllC h2
  have hmo := h2.ok
  obtain ⟨i0, hi, hz0, hz1, hz2⟩ := info_parts infoMark
  have hcon0 := fun v => AnyF.slices_SortFunc_none Try.sortMark none 0 (.func (.func 44) #[] #[]) v
  change ∀ v, Calls Try.prog 43 _ v _ at hcon0
  rcases h2.nums with ⟨rfl, rfl⟩ | ⟨B, n, D, rfl, hB, hm, hD⟩
  · have hb := below_alloc w (.mapIter none 0 #[] 0)
    have hrg := run_range_nilMap (P := Try.prog) w 68 25 3 Try.underlying68
    have hnx : ∀ ty, (Instr.next (.pointer (some ⟨w.heap.size, 0, none⟩)) false ty).run Try.prog (w.alloc (.mapIter none 0 #[] 0)) = _ := fun ty => run_next_nilMap _ ty 0 0 #[]
    clear h2
    go_enter Try.func15, Try.ntmps15
    go_wp2_with (go_at_call 42; (with_reducible refine HA.mono ?_); rintro e wA ⟨rfl, rfl⟩)
    refine wp_loop_rounds 1 ?_
    rw [rounds_succ]
    go_wp2_with (go_at_call 43; refine (hcon0 _).mono ?_; rintro e w2 ⟨rfl, rfl⟩)
    go_ret
    exact ⟨none, 0, rfl, OwnZ.none _ _ _ _ _, hb⟩
  · have hBl := hm.lt
    have hszD := hD.size
    have hmost := hmo.most
    go_enter Try.func15, Try.ntmps15
    go_wp2_with (first
      | (go_at_call 42; (with_reducible refine HA.mono ?_); rintro e wA ⟨rfl, rfl⟩)
      | (at_range; refine wpList_range_own _ rfl _ 68 rfl 25 3 keyedActor Try.underlying68 _ B n _ rfl hm ?_; intro w0 hrg0 hg0 hs0))
    go_frame
    go_loopw [3] (fun s ww => ∃ (left : Lit → Bool) (cnt : Nat) (R : List DotN) (q : Option Addr) (k c2 : Nat), s = .slice q k c2 ∧ ww.ranges Try.prog 25 (plainElem Try.prog 3) B w.heap.size n D left cnt ∧ MetV m left R ∧ OwnZ encD 3 (w.heap.size + 1) 33 q k c2 R ww ∧ k + cnt ≤ 67108864 ∧ Below w.heap.size w ww)
      (fun _ ww => ww.rangeLeft B w.heap.size)
    case atStart => exact ⟨_, _, [], none, 0, 0, rfl, hrg0, MetV.start hD hmo, OwnZ.none _ _ _ _ _, by omega, (Keeps.ofGrownBy hg0).below (Nat.le_refl _) (fun k _ e => by cases e)⟩
    case round =>
      obtain ⟨left, cnt, R, q, k, c2, rfl, hrg, hmet, hz, hcnt, hb⟩ := hrel
      clear hrg0 hg0 hs0 HA h2 hszD hmost
      have hRl : R.length = k := hz.2.1
      have hcm := hz.2.2
      unfold maxLen at hcm
      go_wp2_with (first
        | (at_next; refine wpList_next_actors rfl rfl _ rfl B w.heap.size n D _ _ rfl hrg ?_ ?_))
      · intro hc0 hl0
        have hperm := hmet.perm hmo hl0
        have hml : m.length = k := by rw [← hperm.length_eq]; exact hRl
        rcases hz.head with ⟨rfl, rfl, rfl⟩ | ⟨g, rfl, hg1, hg2⟩
        · have hnil : m = [] := List.eq_nil_of_length_eq_zero hml
          go_wp2_with (go_at_call 43; refine (hcon0 _).mono ?_; rintro e w2 ⟨rfl, rfl⟩)
          go_ret
          rw [hnil]
          exact ⟨none, 0, rfl, OwnZ.none _ _ _ _ _, hb⟩
        · have eg : ∀ args w, (callFunc 44 args).run Try.prog w = .ok (.enter 44 args) w := enters_of Try.func44 (by kernel_rfl) rfl
          have hcmp : Go.Proofs.CmpLays Try.prog 44 #[] encD 3 ordM g 0 R.toArray.size wr := fun _ _ _ _ x y => markOrderG x y _
          have hcon := AnyQ.slices_SortFunc Try.sortMark 3 Try.isAgg33 Try.sizeOf33 encD encD_len encD_one ordM swoM 44 #[] g 0 c2 R.toArray wr eg hcmp (own_holds encD_len hz) hg2 (by simp [hRl]; omega)
          have hsz : R.toArray.size = k := by simp [hRl]
          rw [hsz] at hcon
          change Calls Try.prog 43 _ wr _ at hcon
          have HZ := Lib.hid hz
          have HP := Lib.hid hperm
          have HM := Lib.hid hml
          clear hcmp hmet hz eg hrg hcon0 hperm hml hcm hcnt
          go_wp2_with (go_at_call 43; refine hcon.mono ?_; rintro e w2 ⟨rfl, d', nn, os, hp, hso, rfl⟩)
          go_ret
          rw [← hsz] at hp
          obtain ⟨p1, p2⟩ := permIn_all hp
          rw [hsz] at p1
          have hlist : d'.toList = m := marks_sorted hmo (p2.trans (by simpa using HP.out)) (by
            have := sortedIn_all p1 hso
            simpa only [ordM_less] using this)
          have hown := own_sorted encD_len HZ.out d'.toList (by simpa using p1) nn os
          rw [Array.toArray_toList] at hown
          refine ⟨some ⟨g, 0, none⟩, c2, by rw [HM.out]; rfl, ?_, hb.trans ((keeps_sortedK d').below hb.size (fun i _ h => by subst h; omega))⟩
          have hown := hown.base (Nat.le_succ _)
          rw [HM.out]
          rw [hlist] at hown
          exact hown
      · intro d i c w1 cnt1 hfd hfi hlk hat hrg1 hlt1 hg1 hs1 hen
        obtain ⟨hmem, hmet1⟩ := hmet.step hD hmo hfd hfi hlk hat
        have k1 := Keeps.ofGrownBy hg1
        have hz1' := hz.keeps k1 (fun j hj e => by have := (hz.lt' j hj).1; have := Option.some.inj e; omega)
        have oa := ObjAt.new w1 #[.int .i64 d, .int .i64 i] 25
        have ba := below_alloc w1 (.cells #[.int .i64 d, .int .i64 i] 25)
        have hrg2 := hrg1.alloc (.cells #[.int .i64 d, .int .i64 i] 25)
        have hz2' := hz1'.below ba (Nat.le_refl _)
        have u0 := oa.cell 0 rfl; have u1 := oa.cell 1 rfl
        have hb1 := hb.trans (grown_below_at hg1 (Nat.le_refl _) hb.size)
        have hb2 := hb1.trans (ba.mono hb1.size)
        have hrl := hrg1.lt
        have hwl : w.heap.size + 1 ≤ (w1.alloc (.cells #[.int .i64 d, .int .i64 i] 25)).heap.size := Nat.le_trans hrl (Nat.le_of_lt oa.lt)
        generalize hw2 : w1.alloc (.cells #[.int .i64 d, .int .i64 i] 25) = w2 at *
        clear hs1 hz hz1' hrg1 hmet hmem hcon0 hfd hfi hlk hat hb hb1
        go_wp2_with (at_builtin; refine wpList_append_row1 encD_len (by decide) encD_one rfl (.tmp 14) (.tmp 18) 22 rfl 33 i0 (.agg #[.int .i64 0, .int .i64 0, .int .i64 0]) 24 Try.underlying22 hi hz0 hz1 hz2 rfl hz2' rfl ⟨d, i, c⟩ rfl rfl (k + 1) rfl (by unfold maxLen; omega) (by omega) hwl ?_; intro q3 c3 w3 hz3 hx3 hg3 hn3)
        have k3 := Keeps.ofGrown hx3 hg3
        have hrg3 := k3.ranges (b := B) (r := w.heap.size) (fun h => by have := (hz2'.lt' _ h).1; omega) (fun h => by have := (hz2'.lt' _ h).1; omega) hrg2
        go_roundw
        case rel => exact ⟨_, cnt1, _, q3, k + 1, c3, rfl, hrg3, hmet1, hz3, by omega, hb2.trans (hx3.mono (Nat.le_succ _))⟩
        case measure => rw [hrg3.left_eq, hrg.left_eq]; exact hlt1
end Go.Proofs.Ytcganblfeddjdaa

/- Which marks may be (vector.Check), the vector of them (vector.Of). -/
namespace Go.Proofs.Ytcganblfeddjdaa
open Go.RowKit
set_option linter.unusedVariables false

theorem cmp_ge (z y : DotN) : decide (0 ≤ cmpAG z.dev z.inc y.dev y.inc) = !aheadD z y := by
  have h : aheadD z y = decide (cmpAG z.dev z.inc y.dev y.inc < 0) := by
    unfold cmpAG cmpN
    rw [Bool.eq_iff_iff, decide_eq_true_iff, aheadD_iff]
    repeat' split
    all_goals first | omega | (constructor <;> intros <;> first | omega | contradiction)
  rw [h]
  by_cases c : cmpAG z.dev z.inc y.dev y.inc < 0
  · rw [decide_eq_true c, decide_eq_false (by omega)]; rfl
  · rw [decide_eq_false c, decide_eq_true (by omega)]; rfl

set_option maxHeartbeats 4000000 in
set_option maxRecDepth 100000 in
theorem vCheckC (a : Option Addr) (n c : Nat) (L : List DotN) (w : World) (hL : RowOf encD 3 w a n c L) (hF : ∀ x ∈ L, FitD x) :
    Calls Try.prog 33 #[.slice a n c] w fun e w' => e = .returned (.int .i64 (checkV L)) ∧ Below w.heap.size w w' := by
  have hcm := hL.capm
  have hcl := hL.cle
  have hleq := hL.leq
  unfold maxLen at hcm
  have hb0 := Below.refl w.heap.size w
  by_cases h9 : 4096 < n
  · have h9' : (4096 : Int) < (n : Int) := by omega
    have e : checkV L = 3 := by unfold checkV; rw [if_pos (by omega)]
    rw [e]
    go_enter Try.func33, Try.ntmps33
    go_wp2
    go_ret
    exact ⟨rfl, hb0⟩
  have h9' : ¬ (4096 : Int) < (n : Int) := by omega
  have E : Hid (checkV L = chkF none L) := by unfold Hid checkV; rw [if_neg (by omega)]
  have HL := Lib.hid hL
  have Hn := Lib.hid hleq
  clear hL hleq hF
  go_enter Try.func33, Try.ntmps33
  go_wp2
  go_loopw [10] (fun i wr => ∃ k : Nat, k ≤ n ∧ i = .int .i64 (k : Int) ∧ Hid (checkV L = chkF (prevV L k) (L.drop k)) ∧ Below w.heap.size w wr) (fun i _ => n - (intOf i).toNat)
  case atStart => exact ⟨0, Nat.zero_le _, rfl, E, hb0⟩
  case round =>
    clear hb0 E
    obtain ⟨k, hk, rfl, hs, hb⟩ := hrel
    by_cases hlt : k < n
    · have hlt' : (k : Int) < (n : Int) := by omega
      have g1' : decide ((k : Int) < (n : Int)) = true := decide_eq_true hlt'
      have i1 : (0 : Int) ≤ (k : Int) := by omega
      obtain ⟨y, g, off, hy, rfl, d0, d1, d2⟩ := dot_at (HL.out.below hb) k hlt
      have hd := chkF_drop (pr := prevV L k) hy
      have HR := fun v => dotRightC0 y v
      have hpn : prevV L (k + 1) = some y := by unfold prevV; rw [if_neg (Nat.succ_ne_zero k)]; exact hy
      have o1 := ObjAt.new wr #[.int .i64 y.dev, .int .i64 y.inc, .int .i64 y.seq] 33
      have b1 := below_alloc wr (.cells #[.int .i64 y.dev, .int .i64 y.inc, .int .i64 y.seq] 33)
      have hb1 := hb.trans (b1.mono hb.size)
      have u0 := o1.cell 0 rfl; have u1 := o1.cell 1 rfl; have u2 := o1.cell 2 rfl
      have hlt1 := o1.lt
      generalize hw1 : wr.alloc (.cells #[.int .i64 y.dev, .int .i64 y.inc, .int .i64 y.seq] 33) = w1 at *
      have hB1 := Below.refl w1.heap.size w1
      cases hr : rightD y with
      | false =>
        have e : Hid (checkV L = 4) := by unfold Hid; rw [hs.out, hd, if_pos hr]
        simp only [hr] at HR
        clear hd hs hr hpn hy
        go_wp2_with (go_at_call 41; (with_reducible refine (HR _).mono ?_); rintro e w3 ⟨rfl, hx⟩; have hB1 := hB1.trans (hx.mono hB1.size); clear hx; have o1 := o1.below hB1 hlt1; have f0 := o1.cell 0 rfl; have f1 := o1.cell 1 rfl)
        go_ret
        exact ⟨by rw [e.out]; rfl, hb1.trans (hB1.mono hb1.size)⟩
      | true =>
        simp only [hr] at HR
        rw [if_neg (by rw [hr]; exact Bool.noConfusion)] at hd
        rcases Nat.eq_zero_or_pos k with h0 | h0
        · have e : Hid (checkV L = chkF (prevV L (k + 1)) (L.drop (k + 1))) := by
            unfold Hid
            have hp0 : prevV L k = none := by unfold prevV; rw [if_pos h0]
            rw [hs.out, hd, hp0, hpn]
            rfl
          subst h0
          simp only [Nat.zero_mul, Nat.add_zero] at d0 d1 d2
          clear hd hs hr hpn hy
          go_wp2_with (go_at_call 41; (with_reducible refine (HR _).mono ?_); rintro e w3 ⟨rfl, hx⟩; have hB1 := hB1.trans (hx.mono hB1.size); clear hx; have o1 := o1.below hB1 hlt1; have f0 := o1.cell 0 rfl; have f1 := o1.cell 1 rfl)
          go_quiet (fail)
          go_wp2
          go_roundw
          case rel => exact ⟨0 + 1, by omega, by go_num, e, drawn_below (hb1.trans (hB1.mono hb1.size)) _⟩
          case measure => simp [intOf]; omega
        · obtain ⟨j, hjk⟩ : ∃ j, k = j + 1 := ⟨k - 1, by omega⟩
          obtain ⟨z, g2, off2, hz, hgz, z0, z1, z2⟩ := dot_at (HL.out.below hb) j (by omega)
          cases hgz
          have hS1 : ∀ w', Below w1.heap.size w1 w' → w'.cell? ⟨wr.heap.size, 0, none⟩ = some (.int .i64 y.dev) ∧ w'.cell? ⟨wr.heap.size, 1, none⟩ = some (.int .i64 y.inc) ∧ w'.cell? ⟨g, off + j * 3, none⟩ = some (.int .i64 z.dev) ∧ w'.cell? ⟨g, off + j * 3 + 1, none⟩ = some (.int .i64 z.inc) := fun w' h => by
            have q := o1.below h hlt1
            obtain ⟨y', g', off', e1, e2, e3, e4, _⟩ := dot_at (HL.out.below (hb1.trans (h.mono hb1.size))) j (by omega)
            rw [hz] at e1
            cases e1
            cases e2
            exact ⟨q.cell 0 rfl, q.cell 1 rfl, e3, e4⟩
          have HA := fun v => dotCompareG z.dev z.inc y.dev y.inc v
          have HA := fun v => (HA v).mono fun e w' h => (show e = .returned (.int .i64 (cmpAG z.dev z.inc y.dev y.inc)) ∧ Below v.heap.size v w' from ⟨h.1, h.2.below⟩)
          have hge := cmp_ge z y
          have hp0 : prevV L k = some z := by unfold prevV; rw [if_neg (by omega), hjk]; exact hz
          rw [hp0] at hd
          have hg1 : (0 : Int) < (k : Int) := by omega
          have hg0 : decide ((0 : Int) < (k : Int)) = true := decide_eq_true hg1
          have hj1 : (k : Int) - 1 = (j : Int) := by omega
          have hj4 : wrap64 ((k : Int) - 1) = (j : Int) := by rw [hj1]; unfold wrap64; omega
          have hj2 : IntKind.i64.wrap ((k : Int) - 1) = (j : Int) := by rw [hj1, IntKind.wrap_i64]; omega
          have hj5 : IntKind.i64.wrap (j : Int) = (j : Int) := by rw [IntKind.wrap_i64]; omega
          have hj3 : (j : Int) < (n : Int) := by omega
          have hj0 : (0 : Int) ≤ (j : Int) := by omega
          generalize cmpAG z.dev z.inc y.dev y.inc = C1 at *
          cases hb2 : aheadD z y with
          | false =>
            have e : Hid (checkV L = 6) := by unfold Hid; rw [hs.out, hp0, hd, Option.map_some, hb2, if_pos rfl]
            replace hge : decide (0 ≤ C1) = true := by rw [hge, hb2]; rfl
            have hge2 : 0 ≤ C1 := of_decide_eq_true hge
            clear hd hs hr hpn hy hz hp0 hb2 hjk
            have hg2 : decide (0 < k) = true := decide_eq_true h0
            go_wp2_with (go_at_call 41; (with_reducible refine (HR _).mono ?_); rintro e w3 ⟨rfl, hx⟩; have hB1 := hB1.trans (hx.mono hB1.size); clear hx; obtain ⟨f0, f1, f3, f4⟩ := hS1 _ hB1)
            have hB1 := hB1.drew
            go_region_held3 (fun w' => w'.cell? ⟨wr.heap.size, 0, none⟩ = some (.int .i64 y.dev) ∧ w'.cell? ⟨wr.heap.size, 1, none⟩ = some (.int .i64 y.inc) ∧ w'.cell? ⟨g, off + j * 3, none⟩ = some (.int .i64 z.dev) ∧ w'.cell? ⟨g, off + j * 3 + 1, none⟩ = some (.int .i64 z.inc))
              (first | exact hS1 _ hB1)
              (first
                | (go_at_call 45; (with_reducible refine (HA _).mono ?_); rintro e w4 ⟨rfl, hx⟩; have hB1 := hB1.trans (hx.mono hB1.size); clear hx))
            all_goals (
              go_wp2
              go_ret
              exact ⟨by rw [e.out]; rfl, hb1.trans (hB1.mono hb1.size)⟩)
          | true =>
            have e : Hid (checkV L = chkF (prevV L (k + 1)) (L.drop (k + 1))) := by unfold Hid; rw [hs.out, hp0, hd, Option.map_some, hb2, if_neg (fun c => by cases c), hpn]
            replace hge : decide (0 ≤ C1) = false := by rw [hge, hb2]; rfl
            have hge2 : ¬ 0 ≤ C1 := of_decide_eq_false hge
            clear hd hs hr hpn hy hz hp0 hb2 hjk
            have hg2 : decide (0 < k) = true := decide_eq_true h0
            go_wp2_with (go_at_call 41; (with_reducible refine (HR _).mono ?_); rintro e w3 ⟨rfl, hx⟩; have hB1 := hB1.trans (hx.mono hB1.size); clear hx; obtain ⟨f0, f1, f3, f4⟩ := hS1 _ hB1)
            have hB1 := hB1.drew
            go_region_held3 (fun w' => w'.cell? ⟨wr.heap.size, 0, none⟩ = some (.int .i64 y.dev) ∧ w'.cell? ⟨wr.heap.size, 1, none⟩ = some (.int .i64 y.inc) ∧ w'.cell? ⟨g, off + j * 3, none⟩ = some (.int .i64 z.dev) ∧ w'.cell? ⟨g, off + j * 3 + 1, none⟩ = some (.int .i64 z.inc))
              (first | exact hS1 _ hB1)
              (first
                | (go_at_call 45; (with_reducible refine (HA _).mono ?_); rintro e w4 ⟨rfl, hx⟩; have hB1 := hB1.trans (hx.mono hB1.size); clear hx))
            all_goals (
              go_wp2
              go_roundw
              case rel => exact ⟨k + 1, by omega, by go_num, e, hb1.trans (hB1.mono hb1.size)⟩
              case measure => simp [intOf]; omega)
    · obtain rfl : k = n := by omega
      have e : Hid (checkV L = 0) := by unfold Hid; rw [hs.out, List.drop_eq_nil_of_le (by rw [Hn.out]; exact Nat.le_refl _)]; cases prevV L k <;> rfl
      go_wp2
      go_ret
      exact ⟨by rw [e.out]; rfl, hb⟩

theorem vOfNo (a : Option Addr) (n c : Nat) (L : List DotN) (w : World) (hL : RowOf encD 3 w a n c L) (hF : ∀ x ∈ L, FitD x) (h : ¬ checkV L = 0) :
    Calls Try.prog 29 #[.slice a n c] w fun e w' => e = .returned (.tuple #[.pointer none, .int .i64 (checkV L)]) ∧ Below w.heap.size w w' := by
  have HC := vCheckC a n c L w hL hF
  generalize checkV L = E at *
  have h1 : (E == 0) = false := beq_eq_false_iff_ne.2 h
  have h2 : (E != 0) = true := by simp [h]
  clear h
  go_enter Try.func29, Try.ntmps29
  go_wp2_with (go_at_call 33; (with_reducible refine HC.mono ?_); rintro e w1 ⟨rfl, hx⟩)
  go_ret2
  exact ⟨rfl, hx⟩

set_option maxRecDepth 100000 in
theorem vOfYes (a : Option Addr) (n c : Nat) (L : List DotN) (w : World) (hL : RowOf encD 3 w a n c L) (hF : ∀ x ∈ L, FitD x) (h : checkV L = 0) :
    Calls Try.prog 29 #[.slice a n c] w fun e w' => ∃ p F, e = .returned (.tuple #[.pointer (some ⟨p, 0, none⟩), .int .i64 0]) ∧ VecAt w' p F L ∧ (∀ k, F k → w.heap.size ≤ k) ∧ Below w.heap.size w w' := by
  have HC := vCheckC a n c L w hL hF
  rw [h] at HC
  have hok := (checkV_ok h).1
  have hcm := hL.capm
  have hcl := hL.cle
  have hleq := hL.leq
  unfold maxLen at hcm
  have HN := fun v => vNewC v
  unfold MadeV at HN
  go_enter Try.func29, Try.ntmps29
  go_wp2_with (first
    | (go_at_call 33; (with_reducible refine HC.mono ?_); rintro e w1 ⟨rfl, hx1⟩)
    | (go_at_call 9; (with_reducible refine (HN _).mono ?_); rintro e w2 ⟨p, F0, rfl, hv2, hF2, hx2⟩; have hb2 := hx1.trans (hx2.mono hx1.size)))
  go_loopw [16] (fun i wr => ∃ (k : Nat) (F : Nat → Prop), k ≤ n ∧ i = .int .i64 (k : Int) ∧ VecAt wr p F (joinV [] (L.take k)) ∧ (∀ k, F k → w.heap.size ≤ k) ∧ Below w.heap.size w wr) (fun i _ => n - (intOf i).toNat)
  case atStart => exact ⟨0, F0, Nat.zero_le _, rfl, hv2, fun k h => Nat.le_trans hx1.size (hF2 k h), hb2⟩
  case round =>
    obtain ⟨k, F, hk, rfl, hv, hFw, hb⟩ := hrel
    clear hv2 hb2 HN HC hx1 hx2
    by_cases hlt : k < n
    · have hlt' : (k : Int) < (n : Int) := by omega
      obtain ⟨y, g, off, hy, rfl, d0, d1, d2⟩ := dot_at (hL.below hb) k hlt
      have HR := fun ww hv => vRaiseC p F (joinV [] (L.take k)) y ww hv (hF y (List.mem_of_getElem? hy))
      rw [← joinV_snoc, ← take_snocI hy] at HR
      unfold Raised at HR
      have o1 := ObjAt.new wr #[.int .i64 y.dev, .int .i64 y.inc, .int .i64 y.seq] 33
      have b1 := below_alloc wr (.cells #[.int .i64 y.dev, .int .i64 y.inc, .int .i64 y.seq] 33)
      have hv1 := hv.keeps (Keeps.new (F := fun _ => False) b1) (fun _ _ h => h)
      have hb1 := hb.trans (b1.mono hb.size)
      have u0 := o1.cell 0 rfl; have u1 := o1.cell 1 rfl; have u2 := o1.cell 2 rfl
      generalize hw1 : wr.alloc (.cells #[.int .i64 y.dev, .int .i64 y.inc, .int .i64 y.seq] 33) = w1 at *
      go_wp2_with (go_at_call 13; (with_reducible refine (HR _ hv1).mono ?_); rintro e w3 ⟨rfl, F3, hv3, k3, hn3⟩)
      go_roundw
      case rel => exact ⟨k + 1, F3, by omega, by go_num, hv3, fun i hi => (hn3 i hi).elim (hFw i) (fun h => Nat.le_trans hb1.size h), hb1.trans (k3.below hb1.size (fun i _ h => hFw i h))⟩
      case measure => simp [intOf]; omega
    · obtain rfl : k = n := by omega
      have e0 : L.take k = L := List.take_of_length_le (by rw [hleq]; exact Nat.le_refl _)
      rw [e0, join_nil hok] at hv
      go_wp2
      go_ret2
      exact ⟨p, F, rfl, hv, hFw, hb⟩
end Go.Proofs.Ytcganblfeddjdaa

/- Marks packed (vector.Put), and got (vector.Get). -/
namespace Go.Proofs.Ytcganblfeddjdaa
open Go.RowKit
set_option linter.unusedVariables false

theorem vPutNo (base p : Nat) (a : Option Addr) (l : List Int) (al : Option Addr) (n c : Nat) (L : List DotN) (w : World) (hw : Wr 5 base p a l w) (hL : ∀ v, Below base w v → RowOf encD 3 v al n c L) (hF : ∀ x ∈ L, FitD x) (h : ¬ checkV L = 0) :
    Calls Try.prog 30 #[.pointer (some ⟨p, 0, none⟩), .slice al n c] w fun e w' => e = .returned (.int .i64 (checkV L)) ∧ Below w.heap.size w w' := by
  have HC := vCheckC al n c L w (hL w (Below.refl _ _)) hF
  generalize checkV L = E at *
  have h1 : (E == 0) = false := beq_eq_false_iff_ne.2 h
  have h2 : (E != 0) = true := by simp [h]
  clear h hL
  go_enter Try.func30, Try.ntmps30
  go_wp2_with (go_at_call 33; (with_reducible refine HC.mono ?_); rintro e w1 ⟨rfl, hx⟩)
  go_ret
  exact ⟨rfl, hx⟩

set_option maxHeartbeats 2000000 in
set_option maxRecDepth 100000 in
theorem vPutYes (base p : Nat) (a : Option Addr) (l : List Int) (al : Option Addr) (n c : Nat) (L : List DotN) (w : World) (hw : Wr 5 base p a l w) (hlen : l.length ≤ 1000000) (hbase : base ≤ w.heap.size) (hL : ∀ v, Below base w v → RowOf encD 3 v al n c L) (hF : ∀ x ∈ L, FitD x) (h : checkV L = 0) :
    Calls Try.prog 30 #[.pointer (some ⟨p, 0, none⟩), .slice al n c] w fun e w' => e = .returned (.int .i64 0) ∧ ∃ a', Wr 5 base p a' (l ++ packV L) w' ∧ Kept p a w w' ∧ Near a a' w := by
  have hL0 := hL w (Below.refl _ _)
  have HC := vCheckC al n c L w hL0 hF
  rw [h] at HC
  obtain ⟨hok, hn⟩ := checkV_ok h
  have hleq := hL0.leq
  have hcm := hL0.capm
  have hcl := hL0.cle
  unfold maxLen at hcm
  have hpb := hw.lt.1
  have hab := fun x hx => (hw.row x hx).1
  have t1 := short_ten n (by omega)
  have q1 : IntKind.u64.wrap (n : Int) = (n : Int) := by rw [IntKind.wrap_u64]; omega
  have HN := fun v (hv : Wr 5 base p a l v) hb => wNumC base p n a l v hv (by omega) hb (by omega)
  have hpk : l ++ packV L = l ++ short n ++ L.flatMap bytesD := by unfold packV; rw [hleq, List.append_assoc]
  rw [hpk]
  have hl1 : (l ++ short n).length ≤ 1000010 := by rw [List.length_append]; omega
  generalize l ++ short n = l1 at *
  clear hlen t1 hpk hn
  go_enter Try.func30, Try.ntmps30
  go_wp2_with (first
    | (go_at_call 33; (with_reducible refine HC.mono ?_); rintro e w1 ⟨rfl, hx1⟩; have hw1 := hw.below hx1)
    | (go_at_call 46; (with_reducible refine (HN _ hw1 (Nat.le_trans hbase hx1.size)).mono ?_); rintro e w2 ⟨rfl, a2, hw2, k2, n2⟩; have K2 := (Kept.of hx1 (p := p) (a := a)).trans (Near.refl _ _) k2; have N2 := n2.early hx1.size))
  go_loopw [20] (fun i wr => ∃ (k : Nat) (aw : Option Addr), k ≤ n ∧ i = .int .i64 (k : Int) ∧ Wr 5 base p aw (l1 ++ (L.take k).flatMap bytesD) wr ∧ Kept p a w wr ∧ Near a aw w) (fun i _ => n - (intOf i).toNat)
  case atStart => exact ⟨0, a2, Nat.zero_le _, rfl, by simpa using hw2, K2, N2⟩
  case round =>
    obtain ⟨k, aw, hk, rfl, hwr, K, N⟩ := hrel
    clear hw2 K2 N2 n2 k2 hw1 hx1 HN HC
    by_cases hlt : k < n
    · have hlt' : (k : Int) < (n : Int) := by omega
      have hb := K.below hpb hab hbase
      obtain ⟨y, g, off, hy, rfl, d0, d1, d2⟩ := dot_at (hL wr hb) k hlt
      have hry := hok.right y (List.mem_of_getElem? hy)
      have hfy := hF y (List.mem_of_getElem? hy)
      have o1 := ObjAt.new wr #[.int .i64 y.dev, .int .i64 y.inc, .int .i64 y.seq] 33
      have b1 := below_alloc wr (.cells #[.int .i64 y.dev, .int .i64 y.inc, .int .i64 y.seq] 33)
      have hw1 := hwr.below b1
      have K1 := K.trans N (Kept.of b1)
      have hbs := Nat.le_trans hbase K1.size
      have hln : (l1 ++ (L.take k).flatMap bytesD).length ≤ 1000000000 := by
        have := packs_len (l := L.take k) (fun x hx => hok.right x (List.mem_of_mem_take hx))
        rw [List.length_append]
        rw [List.length_take] at this
        have hn := (checkV_ok h).2
        omega
      have HP := dotPutC0 base p aw (l1 ++ (L.take k).flatMap bytesD) y _ hw1 hln hbs hfy
      have ep : l1 ++ (L.take k).flatMap bytesD ++ putD y = l1 ++ (L.take (k + 1)).flatMap bytesD := by
        rw [packs_snoc hy, List.append_assoc]
        unfold putD
        rw [if_pos hry]
      rw [ep] at HP
      unfold PutGives at HP
      have u0 := o1.cell 0 rfl; have u1 := o1.cell 1 rfl; have u2 := o1.cell 2 rfl
      generalize hwx : wr.alloc (.cells #[.int .i64 y.dev, .int .i64 y.inc, .int .i64 y.seq] 33) = wx at *
      clear hln ep hry hfy
      go_wp2_with (go_at_call 47; (with_reducible refine HP.mono ?_); rintro e w3 ⟨rfl, a3, hw3, k3, n3⟩)
      go_roundw
      case rel => exact ⟨k + 1, a3, by omega, by go_num, hw3, K1.trans N k3, N.trans n3 K1.size⟩
      case measure => simp [intOf]; omega
    · obtain rfl : k = n := by omega
      have e0 : L.take k = L := List.take_of_length_le (by rw [hleq]; exact Nat.le_refl _)
      rw [e0] at hwr
      go_wp2
      go_ret
      exact ⟨rfl, aw, hwr, K, N⟩

theorem fit_of_right {x : DotN} (h : rightD x = true) : FitD x := by
  have := right_range h
  exact ⟨by unfold is64; omega, by unfold is64; omega, by unfold is64; omega⟩
theorem RdIn.belowAt {F : Nat → Prop} {p B : Nat} {l : List Int} {w w' : World} (h : RdIn F p l w) (hb : Below B w w') (hp : p < B) (hF : ∀ k, F k → k < B) : RdIn F p l w' := by
  obtain ⟨a, n, c, h1, h2, h3, h4, h5, h6, h7, h8, h9, h10, h11⟩ := h
  refine ⟨a, n, c, Nat.lt_of_lt_of_le h1 hb.size, (hb.cell (p := ⟨p, 0, none⟩) hp).trans h2, (hb.cell (p := ⟨p, 1, none⟩) hp).trans h3, (hb.frozen (p := ⟨p, 0, none⟩) hp).trans h4, ?_, h6, h7, h8, h9, h10, h11⟩
  intro i v hv
  obtain ⟨b, off, e, hc⟩ := h5 i v hv
  have hbB : b < B := hF b (h11 (fun e => by subst e; simp at hv) b ⟨_, e, rfl⟩)
  exact ⟨b, off, e, (hb.cell (p := ⟨b, off + i, none⟩) hbB).trans hc⟩

set_option maxHeartbeats 2000000 in
set_option maxRecDepth 100000 in
theorem vReadC (p : Nat) (L : List DotN) (r l : List Int) (w : World) (hr : Rd p l w) (hl : packV L ++ r = l) (hb : IsBytes l) (h : checkV L = 0) :
    Calls Try.prog 35 #[.pointer (some ⟨p, 0, none⟩)] w fun e w' => ∃ a c, e = .returned (.slice a L.length c) ∧ RowOf encD 3 w' a L.length c L ∧ Rd p r w' ∧ Kept p none w w' := by
  obtain ⟨hok, hn⟩ := checkV_ok h
  obtain ⟨n, hleq⟩ : ∃ n, L.length = n := ⟨_, rfl⟩
  obtain ⟨i0, hi, hz0, hz1, hz2⟩ := info_parts infoMark
  have hF : ∀ x ∈ L, FitD x := fun x hx => fit_of_right (hok.right x hx)
  rw [hleq] at hn ⊢
  unfold packV at hl
  rw [hleq, List.append_assoc] at hl
  have hb2 : IsBytes (L.flatMap bytesD ++ r) := fun y hy => hb y (hl ▸ List.mem_append_right _ hy)
  have hr0 := hr.inside
  have hpl := hr.lt
  have HN := rNumIn _ p n _ l 4096 w hr0 hl hb (by omega) (by omega)
  have HE := fun l v hv => rErrC p l v hv
  have hcell := fun (v : World) (hv : w.heap.size ≤ v.heap.size) k (hk : k < w.heap.size) => Nat.lt_of_lt_of_le hk hv
  have HC := fun al c (v : World) hL => vCheckC al n c L v hL hF
  rw [h] at HC
  clear hr hl hb hF
  go_enter Try.func35, Try.ntmps35
  go_wp2_with (go_at_call 50; (with_reducible refine HN.mono ?_); rintro e w1 ⟨rfl, hr1, k1⟩)
  go_loopw [3, 8] (fun s i wr => ∃ (k c2 : Nat) (q : Option Addr), k ≤ n ∧ i = .int .u64 (k : Int) ∧ s = .slice q k c2 ∧ OwnZ encD 3 w.heap.size 33 q k c2 (L.take k) wr ∧ RdIn (fun k => k < w.heap.size) p ((L.drop k).flatMap bytesD ++ r) wr ∧ Kept p none w wr) (fun _ i _ => n - (intOf i).toNat)
  case atStart => exact ⟨0, 0, none, Nat.zero_le _, rfl, rfl, OwnZ.none _ _ _ _ _, hr1, k1⟩
  case round =>
    obtain ⟨k, c2, q, hk, rfl, rfl, hz, hrd, K⟩ := hrel
    clear hr1 k1 HN hr0
    have hcm := hz.2.2
    unfold maxLen at hcm
    by_cases hlt : k < n
    · have hlt' : (k : Int) < (n : Int) := by omega
      obtain ⟨y, hy⟩ : ∃ y, L[k]? = some y := ⟨L[k]'(by omega), List.getElem?_eq_getElem _⟩
      have hry := hok.right y (List.mem_of_getElem? hy)
      have hdr : (L.drop k).flatMap bytesD ++ r = bytesD y ++ ((L.drop (k + 1)).flatMap bytesD ++ r) := by
        obtain ⟨hkl, e⟩ := List.getElem?_eq_some_iff.1 hy
        rw [List.drop_eq_getElem_cons hkl, e, List.flatMap_cons, List.append_assoc]
      have hby : IsBytes ((L.drop k).flatMap bytesD ++ r) := fun x hx => hb2 x (by
        rcases List.mem_append.1 hx with hx | hx
        · obtain ⟨z, hz1, hz2⟩ := List.mem_flatMap.1 hx
          exact List.mem_append_left _ (List.mem_flatMap.2 ⟨z, List.mem_of_mem_drop hz1, hz2⟩)
        · exact List.mem_append_right _ hx)
      have HG := dotGetIn _ p y _ _ wr hrd (fun k hk => Nat.lt_of_lt_of_le hk K.size) hdr.symm hby hry
      have hsn := take_snocI hy
      have qk : IntKind.u64.wrap ((k : Int) + 1) = (k : Int) + 1 := by rw [IntKind.wrap_u64]; omega
      obtain ⟨l2, hl2⟩ : ∃ l2, (L.drop (k + 1)).flatMap bytesD ++ r = l2 := ⟨_, rfl⟩
      rw [hl2] at HG
      have HL2 := Lib.hid hl2
      have HD := Lib.hid (show (L.take k) ++ [y] = L.take (k + 1) from hsn.symm)
      clear hdr hby hrd hsn hl2
      go_wp2_with (first
        | (go_at_call 51; (with_reducible refine HG.mono ?_); rintro e w3 ⟨rfl, hr3, k3⟩; have hz3 := hz.keeps (Keeps.ofKept k3) (fun j h1 h2 => h2.elim (fun e => by have := (hz.lt' j h1).1; omega) (fun h => at_none _ h)); have o4 := ObjAt.new w3 #[.int .i64 y.dev, .int .i64 y.inc, .int .i64 y.seq] 27; have b4 := below_alloc w3 (.cells #[.int .i64 y.dev, .int .i64 y.inc, .int .i64 y.seq] 27); obtain ⟨w4, hw4⟩ : ∃ w4, w3.alloc (.cells #[.int .i64 y.dev, .int .i64 y.inc, .int .i64 y.seq] 27) = w4 := ⟨_, rfl⟩; rw [hw4] at o4 b4; have hr4 := hr3.below b4; have hz4 := hz3.below b4 (Nat.le_refl _); have K4 := (K.trans (Near.refl _ _) k3).trans (Near.refl _ _) (Kept.of b4); have HE4 := HE _ _ hr4.rd; have u0 := o4.cell 0 rfl; have u1 := o4.cell 1 rfl; have u2 := o4.cell 2 rfl; have hs4 := K4.size; clear hz3 hr3 k3)
        | (go_at_call 52; (with_reducible refine HE4.mono ?_); rintro e w5 ⟨rfl, rfl⟩)
        | (at_builtin; refine wpList_append_row1 encD_len (by decide) encD_one rfl (.tmp 15) (.tmp 17) 22 rfl 33 i0 (.agg #[.int .i64 0, .int .i64 0, .int .i64 0]) 24 Try.underlying22 hi hz0 hz1 hz2 rfl hz4 rfl y rfl rfl (k + 1) rfl (by unfold maxLen; omega) (by omega) hs4 ?_; intro q6 c6 w6 hz6 hx6 hg6 hn6))
      go_roundw
      case rel => exact ⟨k + 1, c6, q6, by omega, by go_num, rfl, by rw [← HD.out]; exact hz6, by rw [HL2.out]; exact hr4.belowAt hx6 hpl (fun _ h => h), ⟨hx6.os.trans K4.os, hx6.tape.trans K4.tape, hx6.output.trans K4.output, Nat.le_trans K4.size hx6.size, fun j hj h1 h2 => (hx6.block j hj).trans (K4.block j hj h1 h2)⟩⟩
      case measure => simp [intOf]; omega
    · obtain rfl : k = n := by omega
      have e0 : L.take k = L := List.take_of_length_le (by rw [hleq]; exact Nat.le_refl _)
      have e1 : L.drop k = [] := List.drop_of_length_le (by rw [hleq]; exact Nat.le_refl _)
      rw [e0] at hz
      rw [e1, List.flatMap_nil, List.nil_append] at hrd
      have hrow := hz.row encD_len
      have HC1 := HC _ _ _ hrow
      clear HC e0 e1
      go_wp2_with (go_at_call 33; (with_reducible refine HC1.mono ?_); rintro e w5 ⟨rfl, hx5⟩)
      go_ret
      exact ⟨q, c2, rfl, hrow.below hx5, (hrd.below hx5).rd, K.trans (Near.refl _ _) (Kept.of hx5)⟩
end Go.Proofs.Ytcganblfeddjdaa

/- The program's own contracts of layer 17: vectors. -/
namespace Go.Proofs.Ytcganblfeddjdaa
open Go.RowKit
set_option linter.unusedVariables false

theorem vGetC (p : Nat) (F : Nat → Prop) (l : List DotN) (x : DotN) (w : World) (h : VecAt w p F l) (hx : FitD x) :
    Calls Try.prog 18 #[.pointer (some ⟨p, 0, none⟩), .agg #[.int .i64 x.dev, .int .i64 x.inc]] w fun e w' => e = .returned (.int .i64 (getV l x.dev x.inc)) ∧ Below w.heap.size w w' := by
  obtain ⟨mv, ha⟩ := h.arg
  exact vGetA ha _ _ hx.dev hx.inc

theorem vHasC (p : Nat) (F : Nat → Prop) (l : List DotN) (x : DotN) (w : World) (h : VecAt w p F l) (hx : FitD x) :
    Calls Try.prog 16 #[.pointer (some ⟨p, 0, none⟩), .agg #[.int .i64 x.dev, .int .i64 x.inc, .int .i64 x.seq]] w fun e w' => e = .returned (.bool (hasV l x)) ∧ Below w.heap.size w w' := by
  obtain ⟨mv, ha⟩ := h.arg
  exact vHasA ha x hx

theorem vMarksC (p : Nat) (F : Nat → Prop) (l : List DotN) (w : World) (h : VecAt w p F l) (hn : l.length ≤ 5000) :
    Calls Try.prog 15 #[.pointer (some ⟨p, 0, none⟩)] w (GivesZ encD 3 33 l l.length w) := by
  obtain ⟨mv, ha⟩ := h.arg
  exact vMarksA w ha

theorem vSumC (p : Nat) (F : Nat → Prop) (l : List DotN) (w : World) (h : VecAt w p F l) (hn : l.length ≤ 5000) :
    Calls Try.prog 28 #[.pointer (some ⟨p, 0, none⟩)] w fun e w' => e = .returned (.int .i64 (sumV l)) ∧ Below w.heap.size w w' := by
  obtain ⟨mv, ha⟩ := h.arg
  exact vSumA w ha

theorem vJoinC (p q : Nat) (F G : Nat → Prop) (l m : List DotN) (w : World) (h : VecAt w p F l) (h2 : VecAt w q G m) (hd : ∀ k, F k → ¬ G k) (hn : l.length + m.length ≤ 5000) :
    Calls Try.prog 24 #[.pointer (some ⟨p, 0, none⟩), .pointer (some ⟨q, 0, none⟩)] w (Raised p F (joinV l m) (.tuple #[]) w) := by
  obtain ⟨mv, ha⟩ := h2.arg
  exact vJoinA p F l w h ha hd

theorem vMeetC (p q : Nat) (F G : Nat → Prop) (l m : List DotN) (w : World) (h : VecAt w p F l) (h2 : VecAt w q G m) (hn : l.length + m.length ≤ 5000) :
    Calls Try.prog 22 #[.pointer (some ⟨p, 0, none⟩), .pointer (some ⟨q, 0, none⟩)] w (MadeV (meetV l m) w) := by
  obtain ⟨mv1, ha1⟩ := h.arg
  obtain ⟨mv2, ha2⟩ := h2.arg
  exact vMeetA w ha1 ha2

theorem vCopyC (p : Nat) (F : Nat → Prop) (l : List DotN) (w : World) (h : VecAt w p F l) (hn : l.length ≤ 5000) :
    Calls Try.prog 21 #[.pointer (some ⟨p, 0, none⟩)] w (MadeV l w) := by
  obtain ⟨mv, ha⟩ := h.arg
  exact vCopyA w ha

theorem vCoversC (p q : Nat) (F G : Nat → Prop) (l m : List DotN) (w : World) (h : VecAt w p F l) (h2 : VecAt w q G m) (hn : l.length + m.length ≤ 5000) :
    Calls Try.prog 23 #[.pointer (some ⟨p, 0, none⟩), .pointer (some ⟨q, 0, none⟩)] w fun e w' => e = .returned (.bool (coversV l m)) ∧ Below w.heap.size w w' := by
  obtain ⟨mv1, ha1⟩ := h.arg
  obtain ⟨mv2, ha2⟩ := h2.arg
  exact vCoversA w ha1 ha2

/-! A nil vector. -/
theorem vNilJoin1 (w : World) (p : Nat) (F : Nat → Prop) (l : List DotN) (h : VecAt w p F l) (hn : l.length ≤ 5000) :
    Calls Try.prog 24 #[.pointer none, .pointer (some ⟨p, 0, none⟩)] w fun e w' => e = .returned (.tuple #[]) ∧ Below w.heap.size w w' := by
  obtain ⟨mv, ha⟩ := h.arg
  exact vNilJoinA w ha

set_option maxRecDepth 100000 in
theorem vNilJoin2 (w : World) (p : Nat) (F : Nat → Prop) (l : List DotN) (h : VecAt w p F l) (hn : l.length ≤ 5000) :
    Calls Try.prog 24 #[.pointer (some ⟨p, 0, none⟩), .pointer none] w fun e w' => e = .returned (.tuple #[]) ∧ Below w.heap.size w w' := by
  have HA := vAllC (nilArg w)
  have hrg := run_range_nilMap (P := Try.prog) w 68 25 3 Try.underlying68
  have hnx : ∀ ty, (Instr.next (.pointer (some ⟨w.heap.size, 0, none⟩)) false ty).run Try.prog (w.alloc (.mapIter none 0 #[] 0)) = _ := fun ty => run_next_nilMap _ ty 0 0 #[]
  clear h
  go_enter Try.func24, Try.ntmps24
  go_wp2_with (go_at_call 42; (with_reducible refine HA.mono ?_); rintro e w1 ⟨rfl, rfl⟩)
  refine wp_loop_rounds 1 ?_
  rw [rounds_succ]
  go_wp2
  go_end0
  exact ⟨rfl, below_alloc w _⟩

theorem vNilGet (w : World) (x : DotN) (hx : FitD x) :
    Calls Try.prog 18 #[.pointer none, .agg #[.int .i64 x.dev, .int .i64 x.inc]] w fun e w' => e = .returned (.int .i64 0) ∧ Below w.heap.size w w' := vGetA (nilArg w) _ _ hx.dev hx.inc

theorem vNilHas (w : World) (x : DotN) (hx : FitD x) :
    Calls Try.prog 16 #[.pointer none, .agg #[.int .i64 x.dev, .int .i64 x.inc, .int .i64 x.seq]] w fun e w' => e = .returned (.bool false) ∧ Below w.heap.size w w' := by
  have h := vHasA (nilArg w) x hx
  have e : hasV [] x = false := by
    unfold hasV
    cases hr : rightD x with
    | false => rfl
    | true =>
      have := right_range hr
      rw [Bool.true_and]
      exact decide_eq_false (by show ¬ x.seq ≤ 0; omega)
  rw [e] at h
  exact h

theorem vNilMarks (w : World) :
    Calls Try.prog 15 #[.pointer none] w fun e w' => (∃ a c, e = .returned (.slice a 0 c)) ∧ Below w.heap.size w w' :=
  (vMarksA w (nilArg w)).mono fun e w' h => by
    obtain ⟨a, c, h1, h2, h3⟩ := h
    exact ⟨⟨a, c, h1⟩, h3⟩

theorem vNilSum (w : World) :
    Calls Try.prog 28 #[.pointer none] w fun e w' => e = .returned (.int .i64 0) ∧ Below w.heap.size w w' := vSumA w (nilArg w)

theorem vNilMeet1 (w : World) (p : Nat) (F : Nat → Prop) (l : List DotN) (h : VecAt w p F l) (hn : l.length ≤ 5000) :
    Calls Try.prog 22 #[.pointer none, .pointer (some ⟨p, 0, none⟩)] w (MadeV [] w) := by
  obtain ⟨mv, ha⟩ := h.arg
  exact vMeetA w (nilArg w) ha

theorem vNilMeet2 (w : World) (p : Nat) (F : Nat → Prop) (l : List DotN) (h : VecAt w p F l) (hn : l.length ≤ 5000) :
    Calls Try.prog 22 #[.pointer (some ⟨p, 0, none⟩), .pointer none] w (MadeV [] w) := by
  obtain ⟨mv, ha⟩ := h.arg
  have := vMeetA w ha (nilArg w)
  rw [meet_nil2] at this
  exact this

theorem vNilCopy (w : World) :
    Calls Try.prog 21 #[.pointer none] w (MadeV [] w) := vCopyA w (nilArg w)

theorem vNilCovers1 (w : World) (p : Nat) (F : Nat → Prop) (l : List DotN) (h : VecAt w p F l) (hn : l.length ≤ 5000) :
    Calls Try.prog 23 #[.pointer none, .pointer (some ⟨p, 0, none⟩)] w fun e w' => e = .returned (.bool (coversV [] l)) ∧ Below w.heap.size w w' := by
  obtain ⟨mv, ha⟩ := h.arg
  exact vCoversA w (nilArg w) ha

theorem vNilCovers2 (w : World) (p : Nat) (F : Nat → Prop) (l : List DotN) (h : VecAt w p F l) (hn : l.length ≤ 5000) :
    Calls Try.prog 23 #[.pointer (some ⟨p, 0, none⟩), .pointer none] w fun e w' => e = .returned (.bool true) ∧ Below w.heap.size w w' := by
  obtain ⟨mv, ha⟩ := h.arg
  exact vCoversA w ha (nilArg w)
end Go.Proofs.Ytcganblfeddjdaa

/- The example that each law of layer 17 asks for; the vectors that they make. -/
namespace Go.Proofs.Ytcganblfeddjdaa
open Go.RowKit
set_option linter.unusedVariables false

theorem raise_ex : raiseV [] ⟨0, 1, 3⟩ = ([⟨0, 1, 3⟩], true) := by
  unfold raiseV
  rw [if_pos ⟨by decide +kernel, by decide +kernel⟩]
  rfl
theorem take_ex : takeV [⟨0, 1, 3⟩] ⟨0, 1, 4⟩ = ([⟨0, 1, 4⟩], true) := by
  unfold takeV
  rw [if_pos ⟨by decide +kernel, by decide +kernel⟩, set_is (List.pairwise_singleton _ _)]
  rfl

set_option maxRecDepth 100000 in
theorem awake17C (w : World) : Calls Try.prog 8 #[] w fun e w' => e = .returned (.bool true) ∧ Below w.heap.size w w' := by
  have f3 : FitD ⟨0, 1, 3⟩ := ⟨by unfold is64; decide, by unfold is64; decide, by unfold is64; decide⟩
  have f4 : FitD ⟨0, 1, 4⟩ := ⟨by unfold is64; decide, by unfold is64; decide, by unfold is64; decide⟩
  have HN := fun v => vNewC v
  have HR := fun p F v h => vRaiseC p F [] ⟨0, 1, 3⟩ v h f3
  have HT := fun p F v h => vTakeC p F [⟨0, 1, 3⟩] ⟨0, 1, 4⟩ v h f4
  have HM := fun p F v h => vMarksC p F [⟨0, 1, 4⟩] v h (by decide)
  have HS := fun p F v h => vSumC p F [⟨0, 1, 4⟩] v h (by decide)
  have es : sumV [⟨0, 1, 4⟩] = 4 := rfl
  simp only [raise_ex] at HR
  simp only [take_ex] at HT
  simp only [es] at HS
  unfold MadeV at HN
  unfold Raised at HR HT
  unfold GivesZ at HM
  clear f3 f4 es
  go_enter Try.func8, Try.ntmps8
  go_wp2_with (first
    | (go_at_call 9; (with_reducible refine (HN _).mono ?_); rintro e w1 ⟨p, F, rfl, hv1, hF, hx1⟩; have oa := ObjAt.new w1 #[.int .i64 0, .int .i64 1] 25; have ba := below_alloc w1 (.cells #[.int .i64 0, .int .i64 1] 25); have hv2 := hv1.keeps (Keeps.new (F := fun _ => False) ba) (fun _ _ h => h); have u0 := oa.cell 0 rfl; have u1 := oa.cell 1 rfl; have hb2 := hx1.trans (ba.mono hx1.size))
    | (go_at_call 13; (with_reducible refine (HR _ _ _ hv2).mono ?_); rintro e w3 ⟨rfl, F3, hv3, hk3, hn3⟩; have oa3 := oa.keeps hk3 (fun h => absurd (hv1.lt _ h) (Nat.lt_irrefl _)); have hb3 := hb2.trans (hk3.below hb2.size (fun i _ h => hF i h)); have v0 := oa3.cell 0 rfl; have v1 := oa3.cell 1 rfl)
    | (go_at_call 12; (with_reducible refine (HT _ _ _ hv3).mono ?_); rintro e w4 ⟨rfl, F4, hv4, hk4, hn4⟩; have hb4 := hb3.trans (hk4.below hb3.size (fun i _ h => (hn3 i h).elim (hF i) (fun h => Nat.le_trans hb2.size h))))
    | (go_at_call 15; (with_reducible refine (HM _ _ _ hv4).mono ?_); rintro e w5 ⟨a5, c5, rfl, hz5, hx5⟩; have hv5 := hv4.keeps (Keeps.new (F := fun _ => False) hx5) (fun _ _ h => h); have hb5 := hb4.trans (hx5.mono hb4.size); obtain ⟨x, g, off, hx, rfl, c0, c1, c2⟩ := dot_at (hz5.row encD_len) 0 (by decide); cases hx; simp only [Nat.zero_mul, Nat.add_zero] at c0 c1 c2)
    | (go_at_call 28; (with_reducible refine (HS _ _ _ hv5).mono ?_); rintro e w6 ⟨rfl, hx6⟩; have hb6 := hb5.trans (hx6.mono hb5.size)))
  go_ret
  exact ⟨rfl, hb6⟩
end Go.Proofs.Ytcganblfeddjdaa

/- The vectors that layer 17's laws make, the program's and the document's side by side. -/
namespace Go.Proofs.Ytcganblfeddjdaa
open Go.RowKit
set_option linter.unusedVariables false

/-- A vector of the program's, and marks of the reference's, beside each other. -/
structure StP (w : World) (p : Nat) (F : Nat → Prop) (a : Option Addr) (n c : Nat) (R R' : List DotN) (v : World) : Prop where
  vec : VecAt v p F R
  row : RowOf encD 3 v a n c R'
  off : ∀ k, At a k → ¬ F k
  alt : ∀ k, At a k → k < v.heap.size
  new : ∀ k, F k → w.heap.size ≤ k
  hb : Below w.heap.size w v
theorem VecAt.below {w w' : World} {p : Nat} {F : Nat → Prop} {l : List DotN} (h : VecAt w p F l) (hb : Below w.heap.size w w') : VecAt w' p F l :=
  h.keeps (Keeps.new (F := fun _ => False) hb) (fun _ _ h => h)
theorem StP.below {w v v' : World} {p : Nat} {F : Nat → Prop} {a : Option Addr} {n c : Nat} {R R' : List DotN} (h : StP w p F a n c R R' v) (hx : Below v.heap.size v v') : StP w p F a n c R R' v' :=
  ⟨h.vec.below hx, h.row.below hx, h.off, fun k hk => Nat.lt_of_lt_of_le (h.alt k hk) hx.size, h.new, h.hb.trans (hx.mono h.hb.size)⟩
theorem StP.rows {w v v' : World} {p : Nat} {F : Nat → Prop} {a b : Option Addr} {n c n' c' : Nat} {R R' S : List DotN} (h : StP w p F a n c R R' v) (hr : RowOf encD 3 v' b n' c' S) (hat : ∀ k, At b k → At a k ∨ (v.heap.size ≤ k ∧ k < v'.heap.size)) (hx : Below v.heap.size v v') : StP w p F b n' c' R S v' :=
  ⟨h.vec.below hx, hr, fun k hk hF => (hat k hk).elim (fun h1 => h.off k h1 hF) (fun h1 => by have := h.vec.lt k hF; omega), fun k hk => (hat k hk).elim (fun h1 => Nat.lt_of_lt_of_le (h.alt k h1) hx.size) (fun h1 => h1.2), h.new, h.hb.trans (hx.mono h.hb.size)⟩
theorem StP.vecs {w v v' : World} {p : Nat} {F F' : Nat → Prop} {a : Option Addr} {n c : Nat} {R R' S : List DotN} (h : StP w p F a n c R R' v) (hv : VecAt v' p F' S) (hk : Keeps F v v') (hn : ∀ k, F' k → F k ∨ v.heap.size ≤ k) : StP w p F' a n c S R' v' :=
  ⟨hv, h.row.keeps hk h.off, fun k h1 h2 => (hn k h2).elim (h.off k h1) (fun h3 => by have := h.alt k h1; omega), fun k h1 => Nat.lt_of_lt_of_le (h.alt k h1) hk.size, fun k h1 => (hn k h1).elim (h.new k) (fun h2 => Nat.le_trans h.hb.size h2), h.hb.trans (hk.below h.hb.size fun i _ h1 => h.new i h1)⟩

def madeV (L : List DotN) : List DotN := joinV [] (L.take 60)
theorem madeV_ok (L : List DotN) : OkV (madeV L) := by
  have h : ∀ (m l : List DotN), OkV l → OkV (joinV l m) := by
    intro m
    induction m with
    | nil => exact fun l h => h
    | cons x t ih => exact fun l h => ih _ (raise_ok h x)
  exact h _ _ nil_ok
def GivesMade (L : List DotN) (w : World) (e : Ending) (w' : World) : Prop :=
  ∃ p F a n c, e = .returned (.tuple #[.pointer (some ⟨p, 0, none⟩), .slice a n c]) ∧ StP w p F a n c (madeV L) (madeV L) w' ∧ n ≤ 60

set_option maxHeartbeats 2000000 in
set_option maxRecDepth 100000 in
theorem madeC (a : Option Addr) (n c : Nat) (L : List DotN) (w : World) (hL : RowOf encD 3 w a n c L) (hF : ∀ x ∈ L, FitD x) :
    Calls Try.prog 20 #[.slice a n c] w (GivesMade L w) := by
  have hcm := hL.capm
  have hcl := hL.cle
  have hleq := hL.leq
  unfold maxLen at hcm
  have HL := Lib.hid hL
  have Hn := Lib.hid hleq
  have HN := fun v => vNewC v
  unfold MadeV at HN
  unfold GivesMade
  clear hL hleq
  go_enter Try.func20, Try.ntmps20
  go_wp2_with (go_at_call 9; (with_reducible refine (HN _).mono ?_); rintro e w1 ⟨p, F, rfl, hv1, hF1, hx1⟩; have hz1 := OwnZ.lit encD 3 33 w1; have b1 := below_alloc w1 (.cells #[] 33); have hs1 : w1.heap.size < (w1.alloc (.cells #[] 33)).heap.size := (by simp); have hS1 : StP w p F (some ⟨w1.heap.size, 0, none⟩) 0 0 [] [] (w1.alloc (.cells #[] 33)) := ⟨hv1.below b1, hz1.row encD_len, fun k h1 h2 => by have e : w1.heap.size = k := at_some.1 h1; have := hv1.lt k h2; omega, fun k h1 => by have e : w1.heap.size = k := at_some.1 h1; omega, hF1, hx1.trans (b1.mono hx1.size)⟩)
  clear hv1 hF1 hx1 hz1 b1 hs1
  go_loopw [5, 6] (fun l i wr => ∃ (k n' c' : Nat) (a' : Option Addr) (R : List DotN) (F : Nat → Prop), k ≤ n ∧ k ≤ 60 ∧ n' ≤ k ∧ i = .int .i64 (k : Int) ∧ l = .slice a' n' c' ∧ Hid (joinV [] (L.take k) = R) ∧ StP w p F a' n' c' R R wr) (fun _ i _ => n - (intOf i).toNat)
  case atStart => exact ⟨0, 0, 0, _, [], F, Nat.zero_le _, by omega, Nat.le_refl _, rfl, rfl, rfl, hS1⟩
  case round =>
    clear hS1 HN
    obtain ⟨k, n', c', a', R, F, hk, hk6, hn', rfl, rfl, hs, hS⟩ := hrel
    by_cases hlt : k < n
    · have hlt' : (k : Int) < (n : Int) := by omega
      have g1' : decide ((k : Int) < (n : Int)) = true := decide_eq_true hlt'
      have i1 : (0 : Int) ≤ (k : Int) := by omega
      by_cases h60 : k < 60
      · have h60' : (k : Int) < 60 := by omega
        obtain ⟨y, g, off, hy, rfl, d0, d1, d2⟩ := dot_at (HL.out.below hS.hb) k hlt
        have hfy : FitD y := hF y (List.mem_of_getElem? hy)
        have hd := join_snoc (L := []) hy
        rw [hs.out] at hd
        have hS0 : ∀ w', Below w.heap.size w w' → w'.cell? ⟨g, off + k * 3, none⟩ = some (.int .i64 y.dev) ∧ w'.cell? ⟨g, off + k * 3 + 1, none⟩ = some (.int .i64 y.inc) ∧ w'.cell? ⟨g, off + k * 3 + 2, none⟩ = some (.int .i64 y.seq) := fun w' h => by
          obtain ⟨y', g', off', e1, e2, e3⟩ := dot_at (HL.out.below h) k hlt
          rw [hy] at e1
          cases e1
          cases e2
          exact e3
        have HR := fun v h => vRaiseC p F R y v h hfy
        have HG := fun v h => refRaiseVC a' n' c' R y v h (by omega)
        unfold Raised at HR
        unfold GivesV at HG
        obtain ⟨R2, t2, hr2⟩ : ∃ R2 t2, raiseV R y = (R2, t2) := ⟨_, _, rfl⟩
        simp only [hr2] at HG HR
        have HD := Lib.hid (hd.trans (by rw [hr2]))
        clear hd hy hs hfy
        go_wp2_with fail
        have hSd := hS.below ((Below.refl wr.heap.size wr).drew)
        have hBW := hSd.hb
        go_region_held3 (fun w' => w'.cell? ⟨g, off + k * 3, none⟩ = some (.int .i64 y.dev) ∧ w'.cell? ⟨g, off + k * 3 + 1, none⟩ = some (.int .i64 y.inc) ∧ w'.cell? ⟨g, off + k * 3 + 2, none⟩ = some (.int .i64 y.seq))
          (first | exact hS0 _ hBW)
          (first
            | (go_at_call 13; (with_reducible refine (HR _ hSd.vec).mono ?_); rintro e w3 ⟨rfl, F3, hv3, hk3, hn3⟩; have hS3 := hSd.vecs hv3 hk3 hn3; have hBW := hS3.hb))
        all_goals (
          clear hSd hS HR
          obtain ⟨f0, f1, f2⟩ := hS0 _ hBW
          clear hBW
          go_wp2_with fail
          have hSe := hS3.below ((Below.refl w3.heap.size w3).drew)
          have hBW := hSe.hb
          go_region_held3 (fun w' => w'.cell? ⟨g, off + k * 3, none⟩ = some (.int .i64 y.dev) ∧ w'.cell? ⟨g, off + k * 3 + 1, none⟩ = some (.int .i64 y.inc) ∧ w'.cell? ⟨g, off + k * 3 + 2, none⟩ = some (.int .i64 y.seq))
            (first | exact hS0 _ hBW)
            (first
              | (go_at_call 10; (with_reducible refine (HG _ hSe.row).mono ?_); rintro e w4 ⟨a4, n4, c4, rfl, hr4, hn4, hat4, hx4⟩; have hS4 := hSe.rows hr4 hat4 hx4; have hBW := hS4.hb))
          all_goals (
            go_wp2
            go_roundw
            case rel => exact ⟨k + 1, n4, c4, a4, R2, F3, by omega, by omega, by omega, by go_num, rfl, HD, hS4⟩
            case measure => simp [intOf]; omega))
      · obtain rfl : k = 60 := by omega
        have E := Lib.hid (show madeV L = R from hs.out)
        clear hs
        go_wp2
        go_ret2
        exact ⟨p, F, a', n', c', rfl, by rw [E.out]; exact hS, hn'⟩
    · obtain rfl : k = n := by omega
      have E : Hid (madeV L = R) := by
        unfold Hid madeV
        rw [List.take_of_length_le (by rw [Hn.out]; exact hk6), ← hs.out, List.take_of_length_le (by rw [Hn.out]; exact Nat.le_refl _)]
      clear hs
      go_wp2
      go_ret2
      exact ⟨p, F, a', n', c', rfl, by rw [E.out]; exact hS, by omega⟩
end Go.Proofs.Ytcganblfeddjdaa

/- Layer 17's laws, walked: what is joined is the least that covers both. -/
namespace Go.Proofs.Ytcganblfeddjdaa
open Go.RowKit
set_option linter.unusedVariables false

theorem raise_len (l : List DotN) (x : DotN) : (raiseV l x).1.length ≤ l.length + 1 := by
  unfold raiseV
  split
  · exact set_len l x
  · exact Nat.le_succ _
theorem join_len : ∀ (m l : List DotN), (joinV l m).length ≤ l.length + m.length
  | [], l => Nat.le_refl _
  | x :: t, l => by
    have h := join_len t (raiseV l x).1
    have h2 := raise_len l x
    show (joinV (raiseV l x).1 t).length ≤ _
    rw [List.length_cons]
    omega
theorem meet_len (m : List DotN) : ∀ l : List DotN, (meetV l m).length ≤ l.length
  | [] => Nat.le_refl _
  | x :: t => by
    have h := meet_len m t
    show (meetStep m x ++ meetV t m).length ≤ _
    rw [List.length_append, List.length_cons]
    have : (meetStep m x).length ≤ 1 := by
      unfold meetStep
      split
      · exact Nat.le_refl _
      · exact Nat.zero_le _
    omega

theorem covers_join {t v u : List DotN} (ht : OkV t) (hv : OkV v) (hu : OkV u) (h1 : coversV t v = true) (h2 : coversV t u = true) : coversV t (joinV v u) = true := by
  obtain ⟨hj, hg⟩ := join_all hv hu
  rw [covers_iff ht hj]
  rw [covers_iff ht hv] at h1
  rw [covers_iff ht hu] at h2
  intro d i
  have := h1 d i
  have := h2 d i
  rw [hg]
  omega
theorem covers_meet {t v u : List DotN} (ht : OkV t) (hv : OkV v) (hu : OkV u) (h1 : coversV v t = true) (h2 : coversV u t = true) : coversV (meetV v u) t = true := by
  obtain ⟨hj, hg⟩ := meet_all hv hu
  rw [covers_iff hj ht]
  rw [covers_iff hv ht] at h1
  rw [covers_iff hu ht] at h2
  intro d i
  have := h1 d i
  have := h2 d i
  rw [hg]
  omega

/-- Four vectors at once. -/
structure StL (w : World) (p1 p2 p3 p4 : Nat) (F1 F2 F3 F4 : Nat → Prop) (V U T J : List DotN) (wx : World) : Prop where
  v : VecAt wx p1 F1 V
  u : VecAt wx p2 F2 U
  t : VecAt wx p3 F3 T
  j : VecAt wx p4 F4 J
  hb : Below w.heap.size w wx
theorem StL.below {w wx w' : World} {p1 p2 p3 p4 : Nat} {F1 F2 F3 F4 : Nat → Prop} {V U T J : List DotN} (h : StL w p1 p2 p3 p4 F1 F2 F3 F4 V U T J wx) (hx : Below wx.heap.size wx w') : StL w p1 p2 p3 p4 F1 F2 F3 F4 V U T J w' :=
  ⟨h.v.below hx, h.u.below hx, h.t.below hx, h.j.below hx, h.hb.trans (hx.mono h.hb.size)⟩

set_option maxHeartbeats 4000000 in
set_option maxRecDepth 100000 in
theorem vectorLeast_walk (a1 : Option Addr) (n1 c1 : Nat) (L1 : List DotN) (a2 : Option Addr) (n2 c2 : Nat) (L2 : List DotN) (a3 : Option Addr) (n3 c3 : Nat) (L3 : List DotN) (w : World) (hL1 : RowOf encD 3 w a1 n1 c1 L1) (hF1 : ∀ x ∈ L1, FitD x) (hL2 : RowOf encD 3 w a2 n2 c2 L2) (hF2 : ∀ x ∈ L2, FitD x) (hL3 : RowOf encD 3 w a3 n3 c3 L3) (hF3 : ∀ x ∈ L3, FitD x) :
    Calls Try.prog 5 #[.slice a1 n1 c1, .slice a2 n2 c2, .slice a3 n3 c3] w fun e w' => e = .returned (.bool true) ∧ Below w.heap.size w w' := by
  have HM1 := fun v h => madeC a1 n1 c1 L1 v h hF1
  have HM2 := fun v h => madeC a2 n2 c2 L2 v h hF2
  have HM3 := fun v h => madeC a3 n3 c3 L3 v h hF3
  have o1 := madeV_ok L1
  have o2 := madeV_ok L2
  have o3 := madeV_ok L3
  unfold GivesMade at HM1 HM2 HM3
  generalize madeV L1 = V at *
  generalize madeV L2 = U at *
  generalize madeV L3 = T at *
  have hcj := fun h1 h2 => covers_join o3 o1 o2 h1 h2
  have hcm := fun h1 h2 => covers_meet o3 o1 o2 h1 h2
  have hjl := join_len U V
  have hml := meet_len U V
  have HC := fun p F l v h hn => vCopyC p F l v h hn
  have HJ := fun p q F G l m v h h2 hd hn => vJoinC p q F G l m v h h2 hd hn
  have HV := fun p q F G l m v h h2 hn => vCoversC p q F G l m v h h2 hn
  have HT := fun p q F G l m v h h2 hn => vMeetC p q F G l m v h h2 hn
  unfold MadeV at HC HT
  unfold Raised at HJ
  go_enter Try.func5, Try.ntmps5
  go_upto_region 6 with (first
    | (go_at_call 20; (with_reducible refine (HM1 _ hL1).mono ?_); rintro e w1 ⟨p1, F1, b1, m1, k1, rfl, hS1, hm1⟩; have hl1 := hS1.row.leq; have hL2' := hL2.below hS1.hb)
    | (go_at_call 20; (with_reducible refine (HM2 _ hL2').mono ?_); rintro e w2 ⟨p2, F2, b2, m2, k2, rfl, hS2, hm2⟩; have hl2 := hS2.row.leq; have v2 := hS1.vec.below hS2.hb; have hB2 := hS1.hb.trans (hS2.hb.mono hS1.hb.size); have hL3' := hL3.below hB2)
    | (go_at_call 20; (with_reducible refine (HM3 _ hL3').mono ?_); rintro e w3 ⟨p3, F3, b3, m3, k3, rfl, hS3, hm3⟩; have hl3 := hS3.row.leq; have v3 := v2.below hS3.hb; have u3 := hS2.vec.below hS3.hb; have hB3 := hB2.trans (hS3.hb.mono hB2.size))
    | (go_at_call 21; (with_reducible refine (HC _ _ _ _ v3 (by omega)).mono ?_); rintro e w4 ⟨p4, F4, rfl, j4, hn4, hx4⟩; have v4 := v3.below hx4; have u4 := u3.below hx4; have t4 := hS3.vec.below hx4; have hB4 := hB3.trans (hx4.mono hB3.size))
    | (go_at_call 24; (with_reducible refine (HJ _ _ _ _ _ _ _ j4 u4 (fun k h1 h2 => by have := hn4 k h1; have := u3.lt k h2; omega) (by omega)).mono ?_); rintro e w5 ⟨rfl, F5, j5, hk5, hn5⟩; have v5 := v4.keeps hk5 (fun k h1 h2 => by have := hn4 k h2; have := v3.lt k h1; omega); have u5 := u4.keeps hk5 (fun k h1 h2 => by have := hn4 k h2; have := u3.lt k h1; omega); have t5 := t4.keeps hk5 (fun k h1 h2 => by have := hn4 k h2; have := hS3.vec.lt k h1; omega); have hS5 : StL w p1 p2 p3 p4 F1 F2 F3 F5 V U T (joinV V U) w5 := ⟨v5, u5, t5, j5, hB4.trans (hk5.below hB4.size fun i _ h => Nat.le_trans hB3.size (hn4 i h))⟩))
  generalize joinV V U = J at *
  clear HM1 HM2 HM3 HC HJ hS1 hS2 hS3 v2 v3 u3 v4 u4 t4 j4 v5 u5 t5 j5 hk5 hn5 hn4 hx4 hB2 hB3 hB4 hL2' hL3'
  go_cut [47] (fun s47 wx => s47 = .bool false ∧ StL w p1 p2 p3 p4 F1 F2 F3 F5 V U T J wx)
  case first =>
    have H1 := fun v (h : StL w p1 p2 p3 p4 F1 F2 F3 F5 V U T J v) => HV _ _ _ _ _ _ v h.t h.v (by omega)
    have H2 := fun v (h : StL w p1 p2 p3 p4 F1 F2 F3 F5 V U T J v) => HV _ _ _ _ _ _ v h.t h.u (by omega)
    have H3 := fun v (h : StL w p1 p2 p3 p4 F1 F2 F3 F5 V U T J v) => HV _ _ _ _ _ _ v h.t h.j (by omega)
    clear HV HT hcm
    generalize coversV T V = d1 at *
    generalize coversV T U = d2 at *
    generalize coversV T J = d3 at *
    cases d1 with
    | false =>
      go_wp2_with (go_at_call 23; (with_reducible refine (H1 _ hS5).mono ?_); rintro e w6 ⟨rfl, hx⟩; have hS6 := hS5.below hx)
      go_meet
      exact ⟨rfl, hS6⟩
    | true =>
      cases d2 with
      | false =>
        go_wp2_with (first
          | (go_at_call 23; (with_reducible refine (H1 _ hS5).mono ?_); rintro e w6 ⟨rfl, hx⟩; have hS6 := hS5.below hx)
          | (go_at_call 23; (with_reducible refine (H2 _ hS6).mono ?_); rintro e w7 ⟨rfl, hx⟩; have hS7 := hS6.below hx))
        go_meet
        exact ⟨rfl, hS7⟩
      | true =>
        obtain rfl := hcj rfl rfl
        go_wp2_with (first
          | (go_at_call 23; (with_reducible refine (H1 _ hS5).mono ?_); rintro e w6 ⟨rfl, hx⟩; have hS6 := hS5.below hx)
          | (go_at_call 23; (with_reducible refine (H2 _ hS6).mono ?_); rintro e w7 ⟨rfl, hx⟩; have hS7 := hS6.below hx)
          | (go_at_call 23; (with_reducible refine (H3 _ hS7).mono ?_); rintro e w8 ⟨rfl, hx⟩; have hS8 := hS7.below hx))
        go_meet
        exact ⟨rfl, hS8⟩
  case rest =>
  clear hS5 hcj
  obtain ⟨rfl, hS5⟩ := hcut
  have H1 := fun v (h : StL w p1 p2 p3 p4 F1 F2 F3 F5 V U T J v) => HV _ _ _ _ _ _ v h.v h.t (by omega)
  have H2 := fun v (h : StL w p1 p2 p3 p4 F1 F2 F3 F5 V U T J v) => HV _ _ _ _ _ _ v h.u h.t (by omega)
  have H3 := fun v (h : StL w p1 p2 p3 p4 F1 F2 F3 F5 V U T J v) => HT _ _ _ _ _ _ v h.v h.u (by omega)
  have H4 := fun p F v (h : StL w p1 p2 p3 p4 F1 F2 F3 F5 V U T J v) (hm : VecAt v p F (meetV V U)) => HV _ _ _ _ _ _ v hm h.t (by omega)
  clear HV HT
  generalize coversV V T = d1 at *
  generalize coversV U T = d2 at *
  generalize meetV V U = M at *
  generalize coversV M T = d3 at *
  cases d1 with
  | false =>
    go_wp2_with (first
      | (go_at_call 23; (with_reducible refine (H1 _ hS5).mono ?_); rintro e w6 ⟨rfl, hx⟩; have hS6 := hS5.below hx)
      | (go_at_call 8; (with_reducible refine (awake17C _).mono ?_); rintro e w9 ⟨rfl, hx⟩; have hb9 := hS6.hb.trans (hx.mono hS6.hb.size)))
    go_ret
    exact ⟨rfl, hb9⟩
  | true =>
    cases d2 with
    | false =>
      go_wp2_with (first
        | (go_at_call 23; (with_reducible refine (H1 _ hS5).mono ?_); rintro e w6 ⟨rfl, hx⟩; have hS6 := hS5.below hx)
        | (go_at_call 23; (with_reducible refine (H2 _ hS6).mono ?_); rintro e w7 ⟨rfl, hx⟩; have hS7 := hS6.below hx)
        | (go_at_call 8; (with_reducible refine (awake17C _).mono ?_); rintro e w9 ⟨rfl, hx⟩; have hb9 := hS7.hb.trans (hx.mono hS7.hb.size)))
      go_ret
      exact ⟨rfl, hb9⟩
    | true =>
      obtain rfl := hcm rfl rfl
      go_wp2_with (first
        | (go_at_call 23; (with_reducible refine (H1 _ hS5).mono ?_); rintro e w6 ⟨rfl, hx⟩; have hS6 := hS5.below hx)
        | (go_at_call 23; (with_reducible refine (H2 _ hS6).mono ?_); rintro e w7 ⟨rfl, hx⟩; have hS7 := hS6.below hx)
        | (go_at_call 22; (with_reducible refine (H3 _ hS7).mono ?_); rintro e w8 ⟨p8, F8, rfl, m8, hn8, hx⟩; have hS8 := hS7.below hx)
        | (go_at_call 23; (with_reducible refine (H4 _ _ _ hS8 m8).mono ?_); rintro e w10 ⟨rfl, hx⟩; have hS10 := hS8.below hx)
        | (go_at_call 8; (with_reducible refine (awake17C _).mono ?_); rintro e w9 ⟨rfl, hx⟩; have hb9 := hS10.hb.trans (hx.mono hS10.hb.size)))
      go_ret
      exact ⟨rfl, hb9⟩
end Go.Proofs.Ytcganblfeddjdaa

/- Layer 17's laws, walked: vectors joined, met, held against one another. -/
namespace Go.Proofs.Ytcganblfeddjdaa
open Go.RowKit
set_option linter.unusedVariables false

theorem sumV_snoc {l : List DotN} {k : Nat} {y : DotN} (h : l[k]? = some y) : sumV (l.take (k + 1)) = sumV (l.take k) + y.seq := by
  rw [take_snocI h]
  unfold sumV
  simp
theorem sumV_range {l : List DotN} (h : ∀ x ∈ l, rightD x = true) : 0 ≤ sumV l ∧ sumV l ≤ l.length * 4294967296 := by
  induction l with
  | nil => exact ⟨Int.le_refl _, Int.le_refl _⟩
  | cons x t ih =>
    have := ih fun y hy => h y (List.mem_cons_of_mem _ hy)
    have hr := right_range (h x (List.mem_cons_self ..))
    have e : sumV (x :: t) = x.seq + sumV t := by unfold sumV; simp
    rw [e, List.length_cons]
    omega
theorem join_covers {v u : List DotN} (hv : OkV v) (hu : OkV u) : coversV (joinV v u) v = true ∧ coversV (joinV v u) u = true := by
  obtain ⟨hj, hg⟩ := join_all hv hu
  constructor
  · rw [covers_iff hj hv]
    intro d i
    rw [hg]
    omega
  · rw [covers_iff hj hu]
    intro d i
    rw [hg]
    omega
theorem meet_covers {v u : List DotN} (hv : OkV v) (hu : OkV u) : coversV v (meetV v u) = true ∧ coversV u (meetV v u) = true := by
  obtain ⟨hj, hg⟩ := meet_all hv hu
  constructor
  · rw [covers_iff hv hj]
    intro d i
    rw [hg]
    omega
  · rw [covers_iff hu hj]
    intro d i
    rw [hg]
    omega

theorem refSameMY (a b : Option Addr) (n m c1 c2 : Nat) (L : List DotN) (w : World) (hL : RowOf encD 3 w a n c1 L) (hM : RowOf encD 3 w b m c2 L) :
    Calls Try.prog 14 #[.slice a n c1, .slice b m c2] w fun e w' => e = .returned (.bool true) ∧ ∃ k, w' = w.drewN k :=
  (refSameMC a b n m c1 c2 L L w hL hM).mono fun e w' h => ⟨by rw [h.1, sameDs_iff.2 rfl], h.2⟩

/-- Four vectors at once, and the document's marks of two of them. -/
structure StJ (w : World) (p1 p2 p4 p5 : Nat) (F1 F2 F4 F5 : Nat → Prop) (a1 a2 : Option Addr) (n1 c1 n2 c2 : Nat) (V U J M : List DotN) (wx : World) : Prop where
  v : VecAt wx p1 F1 V
  u : VecAt wx p2 F2 U
  c : VecAt wx p4 F4 J
  m : VecAt wx p5 F5 M
  rx : RowOf encD 3 wx a1 n1 c1 V
  ry : RowOf encD 3 wx a2 n2 c2 U
  hb : Below w.heap.size w wx
theorem StJ.below {w wx w' : World} {p1 p2 p4 p5 : Nat} {F1 F2 F4 F5 : Nat → Prop} {a1 a2 : Option Addr} {n1 c1 n2 c2 : Nat} {V U J M : List DotN} (h : StJ w p1 p2 p4 p5 F1 F2 F4 F5 a1 a2 n1 c1 n2 c2 V U J M wx) (hx : Below wx.heap.size wx w') : StJ w p1 p2 p4 p5 F1 F2 F4 F5 a1 a2 n1 c1 n2 c2 V U J M w' :=
  ⟨h.v.below hx, h.u.below hx, h.c.below hx, h.m.below hx, h.rx.below hx, h.ry.below hx, h.hb.trans (hx.mono h.hb.size)⟩

set_option maxHeartbeats 8000000 in
set_option maxRecDepth 100000 in
theorem vectorJoins_walk (a1 : Option Addr) (n1 c1 : Nat) (L1 : List DotN) (a2 : Option Addr) (n2 c2 : Nat) (L2 : List DotN) (w : World) (hL1 : RowOf encD 3 w a1 n1 c1 L1) (hF1 : ∀ x ∈ L1, FitD x) (hL2 : RowOf encD 3 w a2 n2 c2 L2) (hF2 : ∀ x ∈ L2, FitD x) :
    Calls Try.prog 4 #[.slice a1 n1 c1, .slice a2 n2 c2] w fun e w' => e = .returned (.bool true) ∧ Below w.heap.size w w' := by
  have HM1 := fun v h => madeC a1 n1 c1 L1 v h hF1
  have HM2 := fun v h => madeC a2 n2 c2 L2 v h hF2
  have o1 := madeV_ok L1
  have o2 := madeV_ok L2
  unfold GivesMade at HM1 HM2
  generalize madeV L1 = V at *
  generalize madeV L2 = U at *
  obtain ⟨q1, q2⟩ := join_covers o1 o2
  obtain ⟨q3, q4⟩ := meet_covers o1 o2
  have hjl := join_len U V
  have hml := meet_len U V
  have HC := fun p F l v h hn => vCopyC p F l v h hn
  have HJ := fun p q F G l m v h h2 hd hn => vJoinC p q F G l m v h h2 hd hn
  have HV := fun p q F G l m v h h2 hn => vCoversC p q F G l m v h h2 hn
  have HT := fun p q F G l m v h h2 hn => vMeetC p q F G l m v h h2 hn
  have HK := fun p F l v h hn => vMarksC p F l v h hn
  have HSu := fun p F v h hn => vSumC p F V v h hn
  unfold MadeV at HC HT
  unfold Raised at HJ
  unfold GivesZ at HK
  go_enter Try.func4, Try.ntmps4
  go_wp2_with (first
    | (go_at_call 20; (with_reducible refine (HM1 _ hL1).mono ?_); rintro e w1 ⟨p1, F1, b1, m1, k1, rfl, hS1, hm1⟩; have hl1 := hS1.row.leq; have hL2' := hL2.below hS1.hb)
    | (go_at_call 20; (with_reducible refine (HM2 _ hL2').mono ?_); rintro e w2 ⟨p2, F2, b2, m2, k2, rfl, hS2, hm2⟩; have hl2 := hS2.row.leq; have v2 := hS1.vec.below hS2.hb; have r2 := hS1.row.below hS2.hb; have hB2 := hS1.hb.trans (hS2.hb.mono hS1.hb.size))
    | (go_at_call 21; (with_reducible refine (HC _ _ _ _ v2 (by omega)).mono ?_); rintro e w4 ⟨p4, F4, rfl, j4, hn4, hx4⟩; have v4 := v2.below hx4; have u4 := hS2.vec.below hx4; have r4 := r2.below hx4; have s4 := hS2.row.below hx4; have hB4 := hB2.trans (hx4.mono hB2.size))
    | (go_at_call 22; (with_reducible refine (HT _ _ _ _ _ _ _ v4 u4 (by omega)).mono ?_); rintro e w5 ⟨p5, F5, rfl, m5, hn5, hx5⟩; have v5 := v4.below hx5; have u5 := u4.below hx5; have j5 := j4.below hx5; have r5 := r4.below hx5; have s5 := s4.below hx5; have hB5 := hB4.trans (hx5.mono hB4.size))
    | (go_at_call 23; (with_reducible refine (HV _ _ _ _ _ _ _ v5 u5 (by omega)).mono ?_); rintro e w6 ⟨rfl, hx6⟩; have v6 := v5.below hx6; have u6 := u5.below hx6; have j6 := j5.below hx6; have m6 := m5.below hx6; have r6 := r5.below hx6; have s6 := s5.below hx6; have hB6 := hB5.trans (hx6.mono hB5.size))
    | (go_at_call 24; (with_reducible refine (HJ _ _ _ _ _ _ _ j6 u6 (fun k h1 h2 => by have := hn4 k h1; have := hS2.vec.lt k h2; omega) (by omega)).mono ?_); rintro e w7 ⟨rfl, F7, j7, hk7, hn7⟩; have hS7 : StJ w p1 p2 p4 p5 F1 F2 F7 F5 b1 b2 m1 k1 m2 k2 V U (joinV V U) (meetV V U) w7 := ⟨v6.keeps hk7 (fun k h1 h2 => by have := hn4 k h2; have := v2.lt k h1; omega), u6.keeps hk7 (fun k h1 h2 => by have := hn4 k h2; have := hS2.vec.lt k h1; omega), j7, m6.keeps hk7 (fun k h1 h2 => by have := hn5 k h1; have := j4.lt k h2; omega), r6.keeps hk7 (fun k h1 h2 => by have := hn4 k h2; have := hS1.alt k h1; have := hS2.hb.size; omega), s6.keeps hk7 (fun k h1 h2 => by have := hn4 k h2; have := hS2.alt k h1; omega), hB6.trans (hk7.below hB6.size fun i _ h => Nat.le_trans hB2.size (hn4 i h))⟩))
  have H1 := fun v (h : StJ w p1 p2 p4 p5 F1 F2 F7 F5 b1 b2 m1 k1 m2 k2 V U (joinV V U) (meetV V U) v) => HV _ _ _ _ _ _ v h.c h.v (by omega)
  have H2 := fun v (h : StJ w p1 p2 p4 p5 F1 F2 F7 F5 b1 b2 m1 k1 m2 k2 V U (joinV V U) (meetV V U) v) => HV _ _ _ _ _ _ v h.c h.u (by omega)
  have H3 := fun v (h : StJ w p1 p2 p4 p5 F1 F2 F7 F5 b1 b2 m1 k1 m2 k2 V U (joinV V U) (meetV V U) v) => HV _ _ _ _ _ _ v h.v h.m (by omega)
  have H4 := fun v (h : StJ w p1 p2 p4 p5 F1 F2 F7 F5 b1 b2 m1 k1 m2 k2 V U (joinV V U) (meetV V U) v) => HV _ _ _ _ _ _ v h.u h.m (by omega)
  have K1 := fun v (h : StJ w p1 p2 p4 p5 F1 F2 F7 F5 b1 b2 m1 k1 m2 k2 V U (joinV V U) (meetV V U) v) => HK _ _ _ v h.v (by omega)
  have K2 := fun v (h : StJ w p1 p2 p4 p5 F1 F2 F7 F5 b1 b2 m1 k1 m2 k2 V U (joinV V U) (meetV V U) v) => HK _ _ _ v h.u (by omega)
  have K3 := fun v (h : StJ w p1 p2 p4 p5 F1 F2 F7 F5 b1 b2 m1 k1 m2 k2 V U (joinV V U) (meetV V U) v) => HK _ _ _ v h.c (by omega)
  have K4 := fun v (h : StJ w p1 p2 p4 p5 F1 F2 F7 F5 b1 b2 m1 k1 m2 k2 V U (joinV V U) (meetV V U) v) => HK _ _ _ v h.m (by omega)
  have HS1 := fun v (h : StJ w p1 p2 p4 p5 F1 F2 F7 F5 b1 b2 m1 k1 m2 k2 V U (joinV V U) (meetV V U) v) => HSu _ _ v h.v (by omega)
  have R1 := fun v (h : StJ w p1 p2 p4 p5 F1 F2 F7 F5 b1 b2 m1 k1 m2 k2 V U (joinV V U) (meetV V U) v) => refCoversVC _ _ _ _ _ _ V U v h.rx h.ry
  have R2 := fun v (h : StJ w p1 p2 p4 p5 F1 F2 F7 F5 b1 b2 m1 k1 m2 k2 V U (joinV V U) (meetV V U) v) => refMeetVC _ _ _ _ _ _ V U v h.rx h.ry (by omega)
  have R3 := fun v (h : StJ w p1 p2 p4 p5 F1 F2 F7 F5 b1 b2 m1 k1 m2 k2 V U (joinV V U) (meetV V U) v) => refJoinVC _ _ _ _ _ _ V U v h.rx h.ry (by omega)
  unfold GivesZ at R2
  unfold GivesV1 at R3
  simp only [q1] at H1
  simp only [q2] at H2
  simp only [q3] at H3
  simp only [q4] at H4
  generalize joinV V U = J at *
  generalize meetV V U = M at *
  generalize coversV V U = D at *
  have HL1 := Lib.hid hl1
  clear hl1 hl2 hjl hml
  have hcap := hS7.rx.capm
  have hcl1 := hS7.rx.cle
  unfold maxLen at hcap
  clear HM1 HM2 HC HT HJ HV HK HSu hS1 hS2 v2 v4 u4 j4 v5 u5 j5 m5 v6 u6 j6 m6 r2 r4 s4 r5 s5 r6 s6 hk7 hn7 hn4 hn5 hx4 hx5 hx6 hB2 hB4 hB5 hB6 hL2' j7 q1 q2 q3 q4
  go_loopw [12, 13] (fun s i wr => ∃ k : Nat, k ≤ m1 ∧ s = .int .i64 (sumV (V.take k)) ∧ i = .int .i64 (k : Int) ∧ wr = w7) (fun _ i _ => m1 - (intOf i).toNat)
  case atStart => exact ⟨0, Nat.zero_le _, rfl, rfl, rfl⟩
  case round =>
    obtain ⟨k, hk, rfl, rfl, rfl⟩ := hrel
    by_cases hlt : k < m1
    · have hlt' : (k : Int) < (m1 : Int) := by omega
      obtain ⟨y, g, off, hy, rfl, d0, d1, d2⟩ := dot_at hS7.rx k hlt
      have hsn := sumV_snoc hy
      have hry := right_range (o1.right y (List.mem_of_getElem? hy))
      have hsr := sumV_range (l := V.take k) (fun x hx => o1.right x (List.mem_of_mem_take hx))
      rw [List.length_take] at hsr
      have hw64 : IntKind.i64.wrap (sumV (V.take k) + y.seq) = sumV (V.take k) + y.seq := by rw [IntKind.wrap_i64]; omega
      have hw64' : wrap64 (sumV (V.take k) + y.seq) = sumV (V.take k) + y.seq := by unfold wrap64; omega
      have HSN := Lib.hid hsn
      clear hsn hy hry hsr
      generalize sumV (V.take k) = sm at *
      go_wp2
      go_roundw
      case rel => exact ⟨k + 1, by omega, by rw [HSN.out], by go_num, by first | rfl | trivial⟩
      case measure => simp [intOf]; omega
    · obtain rfl : k = m1 := by omega
      have e0 : V.take k = V := List.take_of_length_le (by rw [HL1.out]; exact Nat.le_refl _)
      rw [e0]
      generalize sumV V = sm at *
      have hS := hS7
      go_wp2_with (first
        | (go_at_call 25; (with_reducible refine (R1 _ hS).mono ?_); rintro e w8 ⟨rfl, hx⟩; have hS := hS.below hx; clear hx)
        | (go_at_call 15; (with_reducible refine (K4 _ hS).mono ?_); rintro e w8 ⟨a8, c8, rfl, hz8, hx⟩; have hr1 := hz8.row encD_len; have hS := hS.below hx; clear hx hz8)
        | (go_at_call 26; (with_reducible refine (R2 _ hS).mono ?_); rintro e w8 ⟨a8, c8, rfl, hz8, hx⟩; have hr1 := hr1.below hx; have hr2 := hz8.row encD_len; have hS := hS.below hx; clear hx hz8)
        | (go_at_call 14; (with_reducible refine (refSameMY _ _ _ _ _ _ _ _ hr1 hr2).mono ?_); rintro e w8 ⟨rfl, q8, rfl⟩; have hS := hS.below (drawn_below (Below.refl _ _) q8))
        | (go_at_call 15; (with_reducible refine (K3 _ hS).mono ?_); rintro e w8 ⟨a8, c8, rfl, hz8, hx⟩; have hr1 := hz8.row encD_len; have hS := hS.below hx; clear hx hz8)
        | (go_at_call 27; (with_reducible refine (R3 _ hS).mono ?_); rintro e w8 ⟨a8, n8, c8, rfl, hr2, hn8, hat8, hx⟩; have hr1 := hr1.below hx; have hS := hS.below hx; clear hx)
        | (go_at_call 28; (with_reducible refine (HS1 _ hS).mono ?_); rintro e w8 ⟨rfl, hx⟩; have hS := hS.below hx; clear hx)
        | (go_at_call 23; (with_reducible refine (H1 _ hS).mono ?_); rintro e w8 ⟨rfl, hx⟩; have hS := hS.below hx; clear hx)
        | (go_at_call 23; (with_reducible refine (H2 _ hS).mono ?_); rintro e w8 ⟨rfl, hx⟩; have hS := hS.below hx; clear hx)
        | (go_at_call 23; (with_reducible refine (H3 _ hS).mono ?_); rintro e w8 ⟨rfl, hx⟩; have hS := hS.below hx; clear hx)
        | (go_at_call 23; (with_reducible refine (H4 _ hS).mono ?_); rintro e w8 ⟨rfl, hx⟩; have hS := hS.below hx; clear hx)
        | (go_at_call 15; (with_reducible refine (K1 _ hS).mono ?_); rintro e w8 ⟨a8, c8, rfl, hz8, hx⟩; have hr1 := hz8.row encD_len; have hS := hS.below hx; clear hx hz8)
        | (go_at_call 15; (with_reducible refine (K2 _ hS).mono ?_); rintro e w8 ⟨a8, c8, rfl, hz8, hx⟩; have hr1 := hz8.row encD_len; have hS := hS.below hx; clear hx hz8)
        | (go_at_call 14; (with_reducible refine (refSameMY _ _ _ _ _ _ _ _ hr1 hS.rx).mono ?_); rintro e w8 ⟨rfl, q8, rfl⟩; have hS := hS.below (drawn_below (Below.refl _ _) q8))
        | (go_at_call 14; (with_reducible refine (refSameMY _ _ _ _ _ _ _ _ hr1 hS.ry).mono ?_); rintro e w8 ⟨rfl, q8, rfl⟩; have hS := hS.below (drawn_below (Below.refl _ _) q8))
        | (go_at_call 8; (with_reducible refine (awake17C _).mono ?_); rintro e w9 ⟨rfl, hx⟩; have hb9 := hS.hb.trans (hx.mono hS.hb.size)))
      go_ret
      exact ⟨rfl, hb9⟩
end Go.Proofs.Ytcganblfeddjdaa

/- Layer 17's laws, walked: a nil vector. -/
namespace Go.Proofs.Ytcganblfeddjdaa
open Go.RowKit
set_option linter.unusedVariables false

theorem covers_nil {m : List DotN} (hm : OkV m) {n : Nat} (hn : m.length = n) : coversV [] m = ((n : Int) == 0) := by
  cases m with
  | nil => subst hn; rfl
  | cons x t =>
    have hr := right_range (hm.right x (List.mem_cons_self ..))
    have e : ((n : Int) == 0) = false := by rw [beq_eq_false_iff_ne]; rw [List.length_cons] at hn; omega
    rw [e]
    unfold coversV
    rw [List.all_cons]
    have : decide (x.seq ≤ getV [] x.dev x.inc) = false := decide_eq_false (by show ¬ x.seq ≤ 0; omega)
    rw [this]
    rfl

set_option maxHeartbeats 8000000 in
set_option maxRecDepth 100000 in
theorem vectorNils_walk (a1 : Option Addr) (n1 c1 : Nat) (L : List DotN) (x : DotN) (w : World) (hL : RowOf encD 3 w a1 n1 c1 L) (hF : ∀ y ∈ L, FitD y) (hx : FitD x) :
    Calls Try.prog 7 #[.slice a1 n1 c1, .agg #[.int .i64 x.dev, .int .i64 x.inc, .int .i64 x.seq]] w fun e w' => e = .returned (.bool true) ∧ Below w.heap.size w w' := by
  have o1 := ObjAt.new w #[.int .i64 x.dev, .int .i64 x.inc, .int .i64 x.seq] 27
  have b1 := below_alloc w (.cells #[.int .i64 x.dev, .int .i64 x.inc, .int .i64 x.seq] 27)
  have hlt1 := o1.lt
  generalize hw1 : w.alloc (.cells #[.int .i64 x.dev, .int .i64 x.inc, .int .i64 x.seq] 27) = w1 at *
  have HM := madeC a1 n1 c1 L w1 (hL.below b1) hF
  have ok := madeV_ok L
  unfold GivesMade at HM
  generalize madeV L = U at *
  have hS0 : ∀ w', Below w1.heap.size w1 w' → w'.cell? ⟨w.heap.size, 0, none⟩ = some (.int .i64 x.dev) ∧ w'.cell? ⟨w.heap.size, 1, none⟩ = some (.int .i64 x.inc) ∧ w'.cell? ⟨w.heap.size, 2, none⟩ = some (.int .i64 x.seq) := fun w' h => by
    have o2 := o1.below h hlt1
    exact ⟨o2.cell 0 rfl, o2.cell 1 rfl, o2.cell 2 rfl⟩
  have N1 := fun v => vNilGet v x hx
  have N2 := fun v => vNilHas v x hx
  have N3 := fun v => vNilRaise v x hx
  have N4 := fun v => vNilTake v x hx
  have N5 := fun v => vNilMarks v
  have N6 := fun v => vNilSum v
  have N7 := fun v => vNilCopy v
  have K0 := fun p F v h => vMarksC p F [] v h (by decide)
  unfold MadeV at N7
  unfold GivesZ at K0
  clear hL hF o1
  go_enter Try.func7, Try.ntmps7
  go_wp2_with (go_at_call 20; (with_reducible refine HM.mono ?_); rintro e w2 ⟨p, F, a, n, c, rfl, hS, hn6⟩; have hle := hS.row.leq)
  have J1 := fun v (h : StP w1 p F a n c U U v) => vNilJoin1 v p F U h.vec (by omega)
  have J2 := fun v (h : StP w1 p F a n c U U v) => vNilJoin2 v p F U h.vec (by omega)
  have J3 := fun v (h : StP w1 p F a n c U U v) => vNilMeet1 v p F U h.vec (by omega)
  have J4 := fun v (h : StP w1 p F a n c U U v) => vNilMeet2 v p F U h.vec (by omega)
  have J5 := fun v (h : StP w1 p F a n c U U v) => vNilCovers1 v p F U h.vec (by omega)
  have J6 := fun v (h : StP w1 p F a n c U U v) => vNilCovers2 v p F U h.vec (by omega)
  have K1 := fun v (h : StP w1 p F a n c U U v) => vMarksC p F U v h.vec (by omega)
  unfold MadeV at J3 J4
  unfold GivesZ at K1
  simp only [covers_nil ok hle] at J5
  clear HM ok hle
  obtain ⟨z, hz⟩ : ∃ z, ((n : Int) == 0) = z := ⟨_, rfl⟩
  simp only [hz] at J5
  go_wp2_with (first
    | (go_at_call 24; (with_reducible refine (J1 _ hS).mono ?_); rintro e w8 ⟨rfl, hx⟩; have hS := hS.below hx; obtain ⟨u0, u1, u2⟩ := hS0 _ hS.hb; clear hx)
    | (go_at_call 24; (with_reducible refine (J2 _ hS).mono ?_); rintro e w8 ⟨rfl, hx⟩; have hS := hS.below hx; obtain ⟨u0, u1, u2⟩ := hS0 _ hS.hb; clear hx)
    | (go_at_call 18; (with_reducible refine (N1 _).mono ?_); rintro e w8 ⟨rfl, hx⟩; have hS := hS.below hx; obtain ⟨u0, u1, u2⟩ := hS0 _ hS.hb; clear hx)
    | (go_at_call 16; (with_reducible refine (N2 _).mono ?_); rintro e w8 ⟨rfl, hx⟩; have hS := hS.below hx; obtain ⟨u0, u1, u2⟩ := hS0 _ hS.hb; clear hx)
    | (go_at_call 13; (with_reducible refine (N3 _).mono ?_); rintro e w8 ⟨rfl, hx⟩; have hS := hS.below hx; obtain ⟨u0, u1, u2⟩ := hS0 _ hS.hb; clear hx)
    | (go_at_call 12; (with_reducible refine (N4 _).mono ?_); rintro e w8 ⟨rfl, hx⟩; have hS := hS.below hx; obtain ⟨u0, u1, u2⟩ := hS0 _ hS.hb; clear hx)
    | (go_at_call 15; (with_reducible refine (N5 _).mono ?_); rintro e w8 ⟨⟨a8, c8, rfl⟩, hx⟩; have hS := hS.below hx; obtain ⟨u0, u1, u2⟩ := hS0 _ hS.hb; clear hx)
    | (go_at_call 28; (with_reducible refine (N6 _).mono ?_); rintro e w8 ⟨rfl, hx⟩; have hS := hS.below hx; obtain ⟨u0, u1, u2⟩ := hS0 _ hS.hb; clear hx)
    | (go_at_call 22; (with_reducible refine (J3 _ hS).mono ?_); rintro e w8 ⟨p8, F8, rfl, m8, hn8, hx⟩; have hS := hS.below hx; obtain ⟨u0, u1, u2⟩ := hS0 _ hS.hb; clear hx)
    | (go_at_call 22; (with_reducible refine (J4 _ hS).mono ?_); rintro e w8 ⟨p8, F8, rfl, m8, hn8, hx⟩; have hS := hS.below hx; obtain ⟨u0, u1, u2⟩ := hS0 _ hS.hb; clear hx)
    | (go_at_call 21; (with_reducible refine (N7 _).mono ?_); rintro e w8 ⟨p8, F8, rfl, m8, hn8, hx⟩; have hS := hS.below hx; obtain ⟨u0, u1, u2⟩ := hS0 _ hS.hb; clear hx)
    | (go_at_call 15; (with_reducible refine (K0 _ _ _ m8).mono ?_); rintro e w8 ⟨a8, c8, rfl, hz8, hx⟩; have hS := hS.below hx; obtain ⟨u0, u1, u2⟩ := hS0 _ hS.hb; clear hx)
    | (go_at_call 23; (with_reducible refine (J5 _ hS).mono ?_); rintro e w8 ⟨rfl, hx⟩; have hS := hS.below hx; obtain ⟨u0, u1, u2⟩ := hS0 _ hS.hb; clear hx)
    | (go_at_call 23; (with_reducible refine (J6 _ hS).mono ?_); rintro e w8 ⟨rfl, hx⟩; have hS := hS.below hx; obtain ⟨u0, u1, u2⟩ := hS0 _ hS.hb; clear hx)
    | (go_at_call 15; (with_reducible refine (K1 _ hS).mono ?_); rintro e w8 ⟨a8, c8, rfl, hz8, hx⟩; have hr1 := hz8.row encD_len; have hS := hS.below hx; obtain ⟨u0, u1, u2⟩ := hS0 _ hS.hb; clear hx)
    | (go_at_call 14; (with_reducible refine (refSameMY _ _ _ _ _ _ _ _ hr1 hS.row).mono ?_); rintro e w8 ⟨rfl, q8, rfl⟩; have hS := hS.below (drawn_below (Below.refl _ _) q8))
    | (go_at_call 8; (with_reducible refine (awake17C _).mono ?_); rintro e w8 ⟨rfl, hx⟩; have hb9 := hS.hb.trans (hx.mono hS.hb.size)))
  go_ret
  exact ⟨rfl, b1.trans (hb9.mono b1.size)⟩
end Go.Proofs.Ytcganblfeddjdaa

/- Layer 17's laws, walked: the vector of any marks; marks packed and got. -/
namespace Go.Proofs.Ytcganblfeddjdaa
open Go.RowKit
set_option linter.unusedVariables false

theorem packV_bytes (l : List DotN) : IsBytes (packV l) := by
  intro y hy
  unfold packV at hy
  rcases List.mem_append.1 hy with h | h
  · exact short_bytes _ y h
  · obtain ⟨x, _, h⟩ := List.mem_flatMap.1 h
    exact bytesD_bytes x y h
theorem packV_len {l : List DotN} (h : OkV l) (hn : l.length ≤ 5000) : (packV l).length ≤ 160000 := by
  have h1 := short_ten l.length (by omega)
  have h2 := packs_len h.right
  unfold packV
  rw [List.length_append]
  omega

/-- What lies there at the end: the vector, the bytes, the reader behind them, the marks that it got. -/
structure StF (w : World) (p : Nat) (F : Nat → Prop) (rp : Nat) (base : Nat) (ab : Option Addr) (nb cb : Nat) (bs : List Int) (am : Option Addr) (cm : Nat) (L : List DotN) (wx : World) : Prop where
  v : VecAt wx p F L
  b : Owned base 5 ab nb cb (bs.map (Value.int .u8)) wx
  rd : Rd rp [] wx
  m : RowOf encD 3 wx am L.length cm L
  hb : Below w.heap.size w wx
theorem StF.below {w wx w' : World} {p : Nat} {F : Nat → Prop} {rp base : Nat} {ab : Option Addr} {nb cb : Nat} {bs : List Int} {am : Option Addr} {cm : Nat} {L : List DotN} (h : StF w p F rp base ab nb cb bs am cm L wx) (hx : Below wx.heap.size wx w') : StF w p F rp base ab nb cb bs am cm L w' :=
  ⟨h.v.below hx, h.b.below hx (Nat.le_refl _), h.rd.below hx, h.m.below hx, h.hb.trans (hx.mono h.hb.size)⟩

set_option maxHeartbeats 8000000 in
set_option maxRecDepth 100000 in
theorem vectorOf_walk (a : Option Addr) (n c : Nat) (L : List DotN) (w : World) (hL : RowOf encD 3 w a n c L) (hF : ∀ x ∈ L, FitD x) :
    Calls Try.prog 6 #[.slice a n c] w fun e w' => e = .returned (.bool true) ∧ Below w.heap.size w w' := by
  have hleq := hL.leq
  by_cases hA : 100 < n ∧ n ≤ 4096
  · have h1 : (100 : Int) < (n : Int) := by omega
    have h2 : (n : Int) ≤ 4096 := by omega
    clear hL hleq
    go_enter Try.func6, Try.ntmps6
    go_wp2_with (go_at_call 8; (with_reducible refine (awake17C _).mono ?_); rintro e w2 ⟨rfl, hx⟩)
    go_ret
    exact ⟨rfl, hx⟩
  by_cases hB : 5000 < n
  · have h1 : (100 : Int) < (n : Int) := by omega
    have h2 : ¬ (n : Int) ≤ 4096 := by omega
    have h3 : (5000 : Int) < (n : Int) := by omega
    clear hL hleq
    go_enter Try.func6, Try.ntmps6
    go_wp2_with (go_at_call 8; (with_reducible refine (awake17C _).mono ?_); rintro e w2 ⟨rfl, hx⟩)
    go_ret
    exact ⟨rfl, hx⟩
  have HCk := fun v h => refCheckVC a n c L v h
  have HK := fun v h => vCheckC a n c L v h hF
  by_cases hc : checkV L = 0
  · obtain ⟨hok, h4⟩ := checkV_ok hc
    have h1 : ¬ (100 : Int) < (n : Int) := by omega
    have h3 : ¬ (5000 : Int) < (n : Int) := by omega
    have hpl := packV_len hok (by omega)
    have HOf := vOfYes a n c L w hL hF hc
    have HP := fun base p al l v hw hlen hbase hLv => vPutYes base p al l a n c L v hw hlen hbase hLv hF hc
    have HRd := fun p r l v hr hl hb => vReadC p L r l v hr hl hb hc
    have HRP := fun v h => refVPutC a n c L v h hok.right (by omega)
    have hib := packV_bytes L
    rw [hc] at HCk HK
    have hg4 : ¬ ((100 : Int) < (n : Int) ∧ (n : Int) ≤ 4096) := by omega
    clear hg4 hA hB hc h4
    obtain ⟨N, hN⟩ : ∃ N, (packV L).length = N := ⟨_, rfl⟩
    rw [hN] at HRP hpl
    have HBY := fun base p a l v hw (hl : l.length = N) => wBytesC base p a l N v hw hl (by omega)
    have HSAME := fun a b c d v ha hb => sameO (packV L) N hN a b c d v ha hb (by unfold maxLen; omega)
    have HREAD := fun a c v ha hc hm h0 hlt => readC (packV L) a N c v ha hN hc hm h0 hlt
    have HEND := fun rp v (h : Rd rp [] v) => rEndC rp v h
    unfold GivesOwned at HRP
    have HN := Lib.hid hN
    have HLq := Lib.hid hleq
    clear hN hleq
    go_enter Try.func6, Try.ntmps6
    go_upto_region 12 with (first
      | (go_at_call 29; (with_reducible refine HOf.mono ?_); rintro e w1 ⟨p1, F1, rfl, hv1, hn1, hb1⟩; have hw2 := wr_new w1 5 57; have b2 := below_alloc w1 (.cells #[.slice none 0 0] 57); have hv2 := hv1.below b2; have hb2 := hb1.trans (b2.mono hb1.size); have hs2 : w1.heap.size < (w1.alloc (.cells #[.slice none 0 0] 57)).heap.size := (by simp))
      | (go_at_call 30; (with_reducible refine (HP _ _ _ _ _ hw2 (by simp) b2.size (fun v hv => hL.below (hb2.trans (hv.mono hb1.size)))).mono ?_); rintro e w3 ⟨rfl, a3, hw3, hk3, hn3⟩; have k3 := Keeps.ofKept hk3; have hv3 := hv2.keeps k3 (fun k h1 h2 => h2.elim (fun e => by have := hv1.lt k h1; omega) (fun h => at_none _ h)); have hb3 := hb2.trans ((k3.below (B := w1.heap.size) b2.size (fun i _ h2 => h2.elim (fun e => by omega) (fun h => absurd h (at_none _)))).mono hb1.size); rw [List.nil_append] at hw3)
      | (go_at_call 31; (with_reducible refine (HBY _ _ _ _ _ hw3 HN.out).mono ?_); rintro e w4 ⟨a4, c4, rfl, ho4, hx⟩; have hv4 := hv3.below hx; have hb4 := hb3.trans (hx.mono hb3.size); clear hx)
      | (go_at_call 32; (with_reducible refine (HCk _ (hL.below hb4)).mono ?_); rintro e w5 ⟨rfl, hx⟩; have hv5 := hv4.below hx; have ho5 := ho4.below hx (Nat.le_refl _); have hb5 := hb4.trans (hx.mono hb4.size); clear hx)
      | (go_at_call 34; (with_reducible refine (HREAD _ _ _ ho5.reads ho5.le ho5.capm ho5.nil0 (fun x hx => (ho5.lt' x hx).2)).mono ?_); rintro e w6 ⟨rfl, hrd6, hx⟩; have hv6 := hv5.below hx; have ho6 := ho5.below hx (Nat.le_refl _); have hb6 := hb5.trans (hx.mono hb5.size); clear hx)
      | (go_at_call 35; (with_reducible refine (HRd _ [] _ _ hrd6 (by rw [List.append_nil]) hib).mono ?_); rintro e w7 ⟨a7, c7, rfl, hr7, hrd7, hk7⟩; have k7 := Keeps.ofKept hk7; have hS : StF w p1 F1 w5.heap.size 0 a4 N c4 (packV L) a7 c7 L w7 := ⟨hv6.keeps k7 (fun k h1 h2 => h2.elim (fun e => by have := hv5.lt k h1; omega) (fun h => at_none _ h)), (ho6.base (Nat.zero_le _)).keeps k7 (fun k h1 h2 => h2.elim (fun e => by have := (ho5.at' k h1).2; omega) (fun h => at_none _ h)), hrd7, hr7, hb6.trans (k7.below (B := w.heap.size) hb6.size (fun i _ h2 => h2.elim (fun e => by have := hb5.size; omega) (fun h => absurd h (at_none _))))⟩))
    generalize w5.heap.size = rp at *
    have K1 := fun v (h : StF w p1 F1 rp 0 a4 N c4 (packV L) a7 c7 L v) => HK v (hL.below h.hb)
    have K2 := fun v (h : StF w p1 F1 rp 0 a4 N c4 (packV L) a7 c7 L v) => vMarksC _ _ _ v h.v (by rw [HLq.out]; omega)
    have K3 := fun v (h : StF w p1 F1 rp 0 a4 N c4 (packV L) a7 c7 L v) => HRP v (hL.below h.hb)
    unfold GivesZ at K2
    have HEND := HEND rp
    clear HOf HP HRd HRP HBY HREAD HCk HK hv1 hw2 b2 hv2 hs2 hw3 hk3 hn3 k3 hv3 hv4 ho4 hv5 ho5 hrd6 hv6 ho6 hr7 hrd7 hk7 k7 hb1 hb2 hb3 hb4 hb5 hb6
    go_wp2_with (first
      | (go_at_call 33; (with_reducible refine (K1 _ hS).mono ?_); rintro e w9 ⟨rfl, hx⟩; have hS := hS.below hx; clear hx)
      | (go_at_call 15; (with_reducible refine (K2 _ hS).mono ?_); rintro e w9 ⟨a9, c9, rfl, hz9, hx⟩; have hr1 := hz9.row encD_len; have hS := hS.below hx; clear hx)
      | (go_at_call 14; (with_reducible refine (refSameMY _ _ _ _ _ _ _ _ hr1 (hL.below hS.hb)).mono ?_); rintro e w9 ⟨rfl, q9, rfl⟩; have hS := hS.below (drawn_below (Below.refl _ _) q9); try rw [World.drewN_drewN] at hS)
      | (go_at_call 37; (with_reducible refine (K3 _ hS).mono ?_); rintro e w9 ⟨a9, c9, rfl, ho9, hx⟩; have hrb := ho9.reads; have hS := hS.below hx; clear hx)
      | (go_at_call 36; (with_reducible refine (HSAME _ _ _ _ _ hS.b.reads hrb).mono ?_); rintro e w9 ⟨rfl, q9, rfl⟩; have hS := hS.below (drawn_below (Below.refl _ _) q9); try rw [World.drewN_drewN] at hS)
      | (go_at_call 38; (with_reducible refine (HEND _ hS.rd).mono ?_); rintro e w9 ⟨rfl, rfl⟩; skip)
      | (go_at_call 14; (with_reducible refine (refSameMY _ _ _ _ _ _ _ _ hS.m (hL.below hS.hb)).mono ?_); rintro e w9 ⟨rfl, q9, rfl⟩; have hS := hS.below (drawn_below (Below.refl _ _) q9); try rw [World.drewN_drewN] at hS)
      | (go_at_call 8; (with_reducible refine (awake17C _).mono ?_); rintro e w9 ⟨rfl, hx⟩; have hb9 := hS.hb.trans (hx.mono hS.hb.size)))
    go_ret
    exact ⟨rfl, hb9⟩
  · have h6 : (checkV L == 0) = false := by rw [beq_eq_false_iff_ne]; exact hc
    have h7 : (checkV L != 0) = true := by rw [bne, h6]; rfl
    have h3 : ¬ (5000 : Int) < (n : Int) := by omega
    have HOf := vOfNo a n c L w hL hF hc
    have HP := fun base p al l v hw hLv => vPutNo base p al l a n c L v hw hLv hF hc
    have HBY := fun base p v hw => wBytesC base p none [] 0 v hw rfl (by decide)
    unfold GivesOwned at HBY
    generalize checkV L = C at *
    clear hleq hc
    by_cases h1 : (100 : Int) < (n : Int)
    · have h2 : ¬ (n : Int) ≤ 4096 := by omega
      clear hA hB
      go_enter Try.func6, Try.ntmps6
      go_wp2_with (first
        | (go_at_call 29; (with_reducible refine HOf.mono ?_); rintro e w1 ⟨rfl, hb1⟩; have hw2 := wr_new w1 5 57; have b2 := below_alloc w1 (.cells #[.slice none 0 0] 57); have hb2 := hb1.trans (b2.mono hb1.size))
        | (go_at_call 30; (with_reducible refine (HP _ _ _ _ _ hw2 (fun v hv => hL.below (hb2.trans (hv.mono hb1.size)))).mono ?_); rintro e w3 ⟨rfl, hx⟩; have hw3 := hw2.below hx; have hb3 := hb2.trans (hx.mono hb2.size); clear hx)
        | (go_at_call 31; (with_reducible refine (HBY _ _ _ hw3).mono ?_); rintro e w4 ⟨a4, c4, rfl, ho4, hx⟩; have hb4 := hb3.trans (hx.mono hb3.size); clear hx)
        | (go_at_call 32; (with_reducible refine (HCk _ (hL.below hb4)).mono ?_); rintro e w5 ⟨rfl, hx⟩; have hb5 := hb4.trans (hx.mono hb4.size); clear hx)
        | (go_at_call 33; (with_reducible refine (HK _ (hL.below hb5)).mono ?_); rintro e w6 ⟨rfl, hx⟩; have hb6 := hb5.trans (hx.mono hb5.size); clear hx)
        | (go_at_call 8; (with_reducible refine (awake17C _).mono ?_); rintro e w9 ⟨rfl, hx⟩; have hb9 := hb6.trans (hx.mono hb6.size)))
      go_ret
      exact ⟨rfl, hb9⟩
    · clear hA hB
      go_enter Try.func6, Try.ntmps6
      go_wp2_with (first
        | (go_at_call 29; (with_reducible refine HOf.mono ?_); rintro e w1 ⟨rfl, hb1⟩; have hw2 := wr_new w1 5 57; have b2 := below_alloc w1 (.cells #[.slice none 0 0] 57); have hb2 := hb1.trans (b2.mono hb1.size))
        | (go_at_call 30; (with_reducible refine (HP _ _ _ _ _ hw2 (fun v hv => hL.below (hb2.trans (hv.mono hb1.size)))).mono ?_); rintro e w3 ⟨rfl, hx⟩; have hw3 := hw2.below hx; have hb3 := hb2.trans (hx.mono hb2.size); clear hx)
        | (go_at_call 31; (with_reducible refine (HBY _ _ _ hw3).mono ?_); rintro e w4 ⟨a4, c4, rfl, ho4, hx⟩; have hb4 := hb3.trans (hx.mono hb3.size); clear hx)
        | (go_at_call 32; (with_reducible refine (HCk _ (hL.below hb4)).mono ?_); rintro e w5 ⟨rfl, hx⟩; have hb5 := hb4.trans (hx.mono hb4.size); clear hx)
        | (go_at_call 33; (with_reducible refine (HK _ (hL.below hb5)).mono ?_); rintro e w6 ⟨rfl, hx⟩; have hb6 := hb5.trans (hx.mono hb5.size); clear hx)
        | (go_at_call 8; (with_reducible refine (awake17C _).mono ?_); rintro e w9 ⟨rfl, hx⟩; have hb9 := hb6.trans (hx.mono hb6.size)))
      go_ret
      exact ⟨rfl, hb9⟩
end Go.Proofs.Ytcganblfeddjdaa
