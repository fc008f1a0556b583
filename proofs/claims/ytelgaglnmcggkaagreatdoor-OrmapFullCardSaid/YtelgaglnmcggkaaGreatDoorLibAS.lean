/- Contracts and plain words that the laws' proofs stand on, put together. -/
import Derived.Test.YtelgaglnmcggkaaGreatDoorVecTake
import Derived.Test.YtelgaglnmcggkaaGreatDoorLibAQ
import Derived.Test.YtelgaglnmcggkaaGreatDoorLibAA
import Derived.Test.YtelgaglnmcggkaaGreatDoorLibAJ
import Derived.Test.YtelgaglnmcggkaaGreatDoorShelf
import Derived.Shelf.SlSortCmp.WholeK
import Derived.Shelf.SlSortCmp.NoneTotal
/- Marks: a vector's actors in order, with their numbers: the map's round in whatever order, and slices.SortFunc. -/
namespace Go.Proofs.YtelgaglnmcggkaaGreatDoor
open Go.RowKit Go.Sort
set_option linter.unusedVariables false

def ordM (x y : DotN) : Int := cmpAG x.dev x.inc y.dev y.inc

set_option maxRecDepth 100000 in
theorem markOrderG (x y : DotN) (w : World) :
    Calls Tryz.prog 108 #[.agg #[.int .i64 x.dev, .int .i64 x.inc, .int .i64 x.seq], .agg #[.int .i64 y.dev, .int .i64 y.inc, .int .i64 y.seq]] w fun en w' => en = .returned (.int .i64 (ordM x y)) ∧ Grows w w' := by
  obtain ⟨o1, o2, hb⟩ := two_objs w #[.int .i64 x.dev, .int .i64 x.inc, .int .i64 x.seq] #[.int .i64 y.dev, .int .i64 y.inc, .int .i64 y.seq] 139 139
  have u0 := o1.cell 0 rfl; have u1 := o1.cell 1 rfl; have u2 := o1.cell 2 rfl
  have v0 := o2.cell 0 rfl; have v1 := o2.cell 1 rfl; have v2 := o2.cell 2 rfl
  have hg : Grows w ((w.alloc (.cells #[.int .i64 x.dev, .int .i64 x.inc, .int .i64 x.seq] 139)).alloc (.cells #[.int .i64 y.dev, .int .i64 y.inc, .int .i64 y.seq] 139)) := (Grows.alloc w _).trans (Grows.alloc _ _)
  clear o1 o2 hb
  have H1 := fun w => dotCompareG x.dev x.inc y.dev y.inc w
  unfold ordM
  generalize cmpAG x.dev x.inc y.dev y.inc = C1 at *
  go_enter Tryz.func108, Tryz.ntmps108
  go_wp2_with (go_at_call 109; (with_reducible refine (H1 _).mono ?_); rintro e w1 ⟨rfl, hx⟩; have hg := hg.trans hx)
  go_ret
  exact ⟨rfl, hg⟩

theorem ordM_less (x y : DotN) : ltOf ordM x y = aheadD x y := by
  show decide (ordM x y < 0) = _
  unfold ordM cmpAG cmpN
  rw [Bool.eq_iff_iff, decide_eq_true_iff, aheadD_iff]
  repeat' split
  all_goals first | omega | (constructor <;> intros <;> first | omega | contradiction)
theorem swoM : SWO (ltOf ordM) where
  irrefl x := by rw [ordM_less, ahead_irrefl]
  trans x y z h1 h2 := by rw [ordM_less, aheadD_iff] at *; omega
  ntrans x y z h1 h2 := by rw [ordM_less, aheadD_no] at *; omega

theorem marks_sorted {l d : List DotN} (hl : OkV l) (hp : d.Perm l) (hs : d.Pairwise fun x y => aheadD y x = false) : d = l := by
  have hnd : d.Nodup := hp.nodup_iff.2 hl.ord.nodup
  have ho : OrdV d := List.Pairwise.imp_of_mem (fun {a b} ha hb h => by
    obtain ⟨h1, h2⟩ := h
    rw [aheadD_no] at h1
    rw [aheadD_iff]
    by_cases e : a.dev = b.dev ∧ a.inc = b.inc
    · have g1 := getV_mem hl.ord (hp.mem_iff.1 ha)
      have g2 := getV_mem hl.ord (hp.mem_iff.1 hb)
      rw [e.1, e.2, g2] at g1
      exact absurd (DotN.ext' e.1 e.2 g1.symm) h2
    · omega) (List.Pairwise.and hs hnd)
  exact sorted_unique ho.sorted hl.ord.sorted fun x => hp.mem_iff

set_option maxHeartbeats 2000000 in
set_option maxRecDepth 100000 in
theorem vMarksA {v : Value} {mv : Option Nat} {G : Nat → Prop} {m : List DotN} (w : World) (h2 : ArgV w v mv G m) :
    Calls Tryz.prog 72 #[v] w (GivesZ encD 3 139 m m.length w) := by
  have HA := vAllC h2
  have hmo := h2.ok
  obtain ⟨i0, hi, hz0, hz1, hz2⟩ := info_parts infoMark
  have hcon0 := fun v => AnyF.slices_SortFunc_none Tryz.sortMark none 0 (.func (.func 108) #[] #[]) v
  change ∀ v, Calls Tryz.prog 107 _ v _ at hcon0
  rcases h2.nums with ⟨rfl, rfl⟩ | ⟨B, n, D, rfl, hB, hm, hD⟩
  · have hb := below_alloc w (.mapIter none 0 #[] 0)
    have hrg := run_range_nilMap (P := Tryz.prog) w 83 33 3 Tryz.underlying83
    have hnx : ∀ ty, (Instr.next (.pointer (some ⟨w.heap.size, 0, none⟩)) false ty).run Tryz.prog (w.alloc (.mapIter none 0 #[] 0)) = _ := fun ty => run_next_nilMap _ ty 0 0 #[]
    clear h2
    go_enter Tryz.func72, Tryz.ntmps72
    go_wp2_with (go_at_call 95; (with_reducible refine HA.mono ?_); rintro e wA ⟨rfl, rfl⟩)
    refine wp_loop_rounds 1 ?_
    rw [rounds_succ]
    go_wp2_with (go_at_call 107; refine (hcon0 _).mono ?_; rintro e w2 ⟨rfl, rfl⟩)
    go_ret
    exact ⟨none, 0, rfl, OwnZ.none _ _ _ _ _, hb⟩
  · have hBl := hm.lt
    have hszD := hD.size
    have hmost := hmo.most
    go_enter Tryz.func72, Tryz.ntmps72
    go_wp2_with (first
      | (go_at_call 95; (with_reducible refine HA.mono ?_); rintro e wA ⟨rfl, rfl⟩)
      | (at_range; refine wpList_range_own _ rfl _ 83 rfl 33 3 keyedActor Tryz.underlying83 _ B n _ rfl hm ?_; intro w0 hrg0 hg0 hs0))
    go_frame
    go_loopw [3] (fun s ww => ∃ (left : Lit → Bool) (cnt : Nat) (R : List DotN) (q : Option Addr) (k c2 : Nat), s = .slice q k c2 ∧ ww.ranges Tryz.prog 33 (plainElem Tryz.prog 3) B w.heap.size n D left cnt ∧ MetV m left R ∧ OwnZ encD 3 (w.heap.size + 1) 139 q k c2 R ww ∧ k + cnt ≤ 67108864 ∧ Below w.heap.size w ww)
      (fun _ ww => ww.rangeLeft B w.heap.size)
    case atStart => exact ⟨_, _, [], none, 0, 0, rfl, hrg0, MetV.start hD hmo, OwnZ.none _ _ _ _ _, by omega, (Keeps.ofGrownBy hg0).below (Nat.le_refl _) (fun k _ e => by cases e)⟩
    case round =>
      obtain ⟨left, cnt, R, q, k, c2, rfl, hrg, hmet, hz, hcnt, hb⟩ := hrel
      clear hrg0 hg0 hs0 HA h2 hszD hmost
      have hRl : R.length = k := hz.2.1
      have hcm := hz.2.2
      unfold maxLen at hcm
      go_wp2_with (first
        | (at_next; refine wpList_next_actors rfl rfl _ rfl B w.heap.size n D _ _ rfl hrg ?_ ?_))
      · intro hc0 hl0
        have hperm := hmet.perm hmo hl0
        have hml : m.length = k := by rw [← hperm.length_eq]; exact hRl
        rcases hz.head with ⟨rfl, rfl, rfl⟩ | ⟨g, rfl, hg1, hg2⟩
        · have hnil : m = [] := List.eq_nil_of_length_eq_zero hml
          go_wp2_with (go_at_call 107; refine (hcon0 _).mono ?_; rintro e w2 ⟨rfl, rfl⟩)
          go_ret
          rw [hnil]
          exact ⟨none, 0, rfl, OwnZ.none _ _ _ _ _, hb⟩
        · have eg : ∀ args w, (callFunc 108 args).run Tryz.prog w = .ok (.enter 108 args) w := enters_of Tryz.func108 (by kernel_rfl) rfl
          have hcmp : Go.Proofs.CmpLays Tryz.prog 108 #[] encD 3 ordM g 0 R.toArray.size wr := fun _ _ _ _ x y => markOrderG x y _
          have hcon := AnyQ.slices_SortFunc Tryz.sortMark 3 Tryz.isAgg139 Tryz.sizeOf139 encD encD_len encD_one ordM swoM 108 #[] g 0 c2 R.toArray wr eg hcmp (own_holds encD_len hz) hg2 (by simp [hRl]; omega)
          have hsz : R.toArray.size = k := by simp [hRl]
          rw [hsz] at hcon
          change Calls Tryz.prog 107 _ wr _ at hcon
          have HZ := Lib.hid hz
          have HP := Lib.hid hperm
          have HM := Lib.hid hml
          clear hcmp hmet hz eg hrg hcon0 hperm hml hcm hcnt
          go_wp2_with (go_at_call 107; refine hcon.mono ?_; rintro e w2 ⟨rfl, d', nn, os, hp, hso, rfl⟩)
          go_ret
          rw [← hsz] at hp
          obtain ⟨p1, p2⟩ := permIn_all hp
          rw [hsz] at p1
          have hlist : d'.toList = m := marks_sorted hmo (p2.trans (by simpa using HP.out)) (by
            have := sortedIn_all p1 hso
            simpa only [ordM_less] using this)
          have hown := own_sorted encD_len HZ.out d'.toList (by simpa using p1) nn os
          rw [Array.toArray_toList] at hown
          refine ⟨some ⟨g, 0, none⟩, c2, by rw [HM.out]; rfl, ?_, hb.trans ((keeps_sortedK d').below hb.size (fun i _ h => by subst h; omega))⟩
          have hown := hown.base (Nat.le_succ _)
          rw [HM.out]
          rw [hlist] at hown
          exact hown
      · intro d i c w1 cnt1 hfd hfi hlk hat hrg1 hlt1 hg1 hs1 hen
        obtain ⟨hmem, hmet1⟩ := hmet.step hD hmo hfd hfi hlk hat
        have k1 := Keeps.ofGrownBy hg1
        have hz1' := hz.keeps k1 (fun j hj e => by have := (hz.lt' j hj).1; have := Option.some.inj e; omega)
        have oa := ObjAt.new w1 #[.int .i64 d, .int .i64 i] 33
        have ba := below_alloc w1 (.cells #[.int .i64 d, .int .i64 i] 33)
        have hrg2 := hrg1.alloc (.cells #[.int .i64 d, .int .i64 i] 33)
        have hz2' := hz1'.below ba (Nat.le_refl _)
        have u0 := oa.cell 0 rfl; have u1 := oa.cell 1 rfl
        have hb1 := hb.trans (grown_below_at hg1 (Nat.le_refl _) hb.size)
        have hb2 := hb1.trans (ba.mono hb1.size)
        have hrl := hrg1.lt
        have hwl : w.heap.size + 1 ≤ (w1.alloc (.cells #[.int .i64 d, .int .i64 i] 33)).heap.size := Nat.le_trans hrl (Nat.le_of_lt oa.lt)
        generalize hw2 : w1.alloc (.cells #[.int .i64 d, .int .i64 i] 33) = w2 at *
        clear hs1 hz hz1' hrg1 hmet hmem hcon0 hfd hfi hlk hat hb hb1
        go_wp2_with (at_builtin; refine wpList_append_row1 encD_len (by decide) encD_one rfl (.tmp 14) (.tmp 18) 27 rfl 139 i0 (.agg #[.int .i64 0, .int .i64 0, .int .i64 0]) 24 Tryz.underlying27 hi hz0 hz1 hz2 rfl hz2' rfl ⟨d, i, c⟩ rfl rfl (k + 1) rfl (by unfold maxLen; omega) (by omega) hwl ?_; intro q3 c3 w3 hz3 hx3 hg3 hn3)
        have k3 := Keeps.ofGrown hx3 hg3
        have hrg3 := k3.ranges (b := B) (r := w.heap.size) (fun h => by have := (hz2'.lt' _ h).1; omega) (fun h => by have := (hz2'.lt' _ h).1; omega) hrg2
        go_roundw
        case rel => exact ⟨_, cnt1, _, q3, k + 1, c3, rfl, hrg3, hmet1, hz3, by omega, hb2.trans (hx3.mono (Nat.le_succ _))⟩
        case measure => rw [hrg3.left_eq, hrg.left_eq]; exact hlt1
end Go.Proofs.YtelgaglnmcggkaaGreatDoor

/- Join into a vector that lies within a struct. -/
namespace Go.Proofs.YtelgaglnmcggkaaGreatDoor
open Go.RowKit
set_option linter.unusedVariables false

end Go.Proofs.YtelgaglnmcggkaaGreatDoor

/- Join: each number becomes the greater one of both. -/
namespace Go.Proofs.YtelgaglnmcggkaaGreatDoor
open Go.RowKit
set_option linter.unusedVariables false

end Go.Proofs.YtelgaglnmcggkaaGreatDoor

/- Which marks may be (vector.Check), the vector of them (vector.Of). -/
namespace Go.Proofs.YtelgaglnmcggkaaGreatDoor
open Go.RowKit
set_option linter.unusedVariables false

end Go.Proofs.YtelgaglnmcggkaaGreatDoor
