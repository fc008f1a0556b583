/- Contracts and plain words that the laws' proofs stand on, put together. -/
import Derived.Test.YtjocnhkapiiblaaDoorMatchRef3
import Derived.Test.YtjocnhkapiiblaaDoorLibAJ
import Derived.Test.YtjocnhkapiiblaaDoorLibAF
/- Contracts of layer 15: which items are ahead, items in order, those that go with a request, and their text. -/
namespace Go.Proofs.YtjocnhkapiiblaaDoor
open Go.RowKit
set_option linter.unusedVariables false

/-- The tables that the program reads: the library's powers of ten. -/
abbrev MTb (w : World) : Prop := PTab Tryd.prog w
theorem MTb.below {w w' : World} (h : MTb w) (hb : Below w.heap.size w w') : MTb w' := PTab.below h hb

theorem matchLessC (x y : ItemL) (w : World) (hx : shortI x = true) (hy : shortI y = true) (hT : MTb w) :
    Calls Tryd.prog 10 #[.agg #[.string (str x.name), .string (str x.dom), .string (str x.path)], .agg #[.string (str y.name), .string (str y.dom), .string (str y.path)]] w fun e w' => e = .returned (.bool (keyLess x y)) ∧ Below w.heap.size w w' :=
  (matchLessG x y w).mono fun _ _ h => ⟨h.1, h.2.below⟩

theorem matchBeforeC (x y : ItemL) (w : World) (hx : shortI x = true) (hy : shortI y = true) (hT : MTb w) :
    Calls Tryd.prog 8 #[.agg #[.string (str x.name), .string (str x.dom), .string (str x.path), .string (str x.val), .bool x.host, .bool x.sec, .bool x.http, .bool x.pers, .int .i64 x.exp, .int .i64 x.made, .int .i64 x.used], .agg #[.string (str y.name), .string (str y.dom), .string (str y.path), .string (str y.val), .bool y.host, .bool y.sec, .bool y.http, .bool y.pers, .int .i64 y.exp, .int .i64 y.made, .int .i64 y.used]] w fun e w' => e = .returned (.bool (ahead x y)) ∧ Below w.heap.size w w' :=
  (matchBeforeG x y w).mono fun _ _ h => ⟨h.1, h.2.below⟩

theorem matchSortC (a : Option Addr) (n c : Nat) (L : List ItemL) (w : World) (hL : RowOf encI 11 w a n c L) (hl : lightI L = true) (hT : MTb w) :
    Calls Tryd.prog 12 #[.slice a n c] w (GivesZ encI 11 27 (sortI L) n w) :=
  sortItemsC a n c L w hL (by have := (short_mem hl).1; have := hL.leq; omega)

theorem matchPickC (a : Option Addr) (n c : Nat) (L : List ItemL) (h p : List UInt8) (sec scr : Bool) (now : Int) (w : World) (hL : RowOf encI 11 w a n c L) (hl : lightI L = true) (lh : h.length ≤ 300) (lp : p.length ≤ 300) (hT : MTb w) :
    Calls Tryd.prog 15 #[.slice a n c, .agg #[.string (str h), .string (str p), .bool sec, .bool scr], .int .i64 now] w (GivesZ encI 11 27 (pickI L h p sec scr now) (pickI L h p sec scr now).length w) :=
  pickItemsC a n c L h p sec scr now w hL hl lh lp hT

theorem matchTextC (a : Option Addr) (n c : Nat) (L : List ItemL) (w : World) (hL : RowOf encI 11 w a n c L) (hl : lightI L = true) (hT : MTb w) :
    Calls Tryd.prog 16 #[.slice a n c] w fun e w' => e = .returned (.string (str (textI L))) ∧ Below w.heap.size w w' :=
  textItemsC a n c L w hL (by have := (short_mem hl).1; have := hL.leq; omega) (fun x hx => by
    obtain ⟨k1, _, _, k4⟩ := (short_mem hl).2 x hx
    exact ⟨k1, k4⟩)
end Go.Proofs.YtjocnhkapiiblaaDoor

/- Layer 15's laws, walked: the example; items in order. -/
namespace Go.Proofs.YtjocnhkapiiblaaDoor
open Go.RowKit
set_option linter.unusedVariables false

def twoI : List ItemL := [⟨[97], [120], [47], [49], false, false, false, false, 0, 0, 0⟩, ⟨[98], [120], [47, 120], [50], false, false, false, false, 0, 0, 0⟩]
theorem two_pick : pickI twoI [120] [47, 120, 47, 121] false false 0 = [⟨[98], [120], [47, 120], [50], false, false, false, false, 0, 0, 0⟩, ⟨[97], [120], [47], [49], false, false, false, false, 0, 0, 0⟩] := by kernel_rfl
theorem two_text : textI [⟨[98], [120], [47, 120], [50], false, false, false, false, 0, 0, 0⟩, ⟨[97], [120], [47], [49], false, false, false, false, 0, 0, 0⟩] = [98, 61, 50, 59, 32, 97, 61, 49] := by kernel_rfl

set_option maxHeartbeats 2000000 in
set_option maxRecDepth 100000 in
theorem awake15C (w : World) (hT : MTb w) : Calls Tryd.prog 7 #[] w fun e w' => e = .returned (.bool true) ∧ Below w.heap.size w w' := by
  obtain ⟨o1, o2, hb⟩ := two_obj w #[.string ⟨#[97]⟩, .string ⟨#[120]⟩, .string ⟨#[47]⟩, .string ⟨#[49]⟩, .bool false, .bool false, .bool false, .bool false, .int .i64 0, .int .i64 0, .int .i64 0] #[.string ⟨#[98]⟩, .string ⟨#[120]⟩, .string ⟨#[47, 120]⟩, .string ⟨#[50]⟩, .bool false, .bool false, .bool false, .bool false, .int .i64 0, .int .i64 0, .int .i64 0] 27 27
  have HP : ∀ v, MTb v → Calls Tryd.prog 15 #[.slice (some ⟨v.heap.size, 0, none⟩) 2 2, .agg #[.string ⟨#[120]⟩, .string ⟨#[47, 120, 47, 121]⟩, .bool false, .bool false], .int .i64 0] (v.alloc (.cells #[.string ⟨#[97]⟩, .string ⟨#[120]⟩, .string ⟨#[47]⟩, .string ⟨#[49]⟩, .bool false, .bool false, .bool false, .bool false, .int .i64 0, .int .i64 0, .int .i64 0, .string ⟨#[98]⟩, .string ⟨#[120]⟩, .string ⟨#[47, 120]⟩, .string ⟨#[50]⟩, .bool false, .bool false, .bool false, .bool false, .int .i64 0, .int .i64 0, .int .i64 0] 27))
      fun e w' => (∃ a c, e = .returned (.slice a 2 c) ∧ RowOf encI 11 w' a 2 c [⟨[98], [120], [47, 120], [50], false, false, false, false, 0, 0, 0⟩, ⟨[97], [120], [47], [49], false, false, false, false, 0, 0, 0⟩]) ∧ Below v.heap.size v w' := fun v hv => by
    have hr := (OwnZ.new encI_len twoI #[.string ⟨#[97]⟩, .string ⟨#[120]⟩, .string ⟨#[47]⟩, .string ⟨#[49]⟩, .bool false, .bool false, .bool false, .bool false, .int .i64 0, .int .i64 0, .int .i64 0, .string ⟨#[98]⟩, .string ⟨#[120]⟩, .string ⟨#[47, 120]⟩, .string ⟨#[50]⟩, .bool false, .bool false, .bool false, .bool false, .int .i64 0, .int .i64 0, .int .i64 0] rfl 2 rfl (by unfold maxLen; omega) 27 v).row encI_len
    have hbv := below_alloc v (.cells #[.string ⟨#[97]⟩, .string ⟨#[120]⟩, .string ⟨#[47]⟩, .string ⟨#[49]⟩, .bool false, .bool false, .bool false, .bool false, .int .i64 0, .int .i64 0, .int .i64 0, .string ⟨#[98]⟩, .string ⟨#[120]⟩, .string ⟨#[47, 120]⟩, .string ⟨#[50]⟩, .bool false, .bool false, .bool false, .bool false, .int .i64 0, .int .i64 0, .int .i64 0] 27)
    refine (matchPickC _ 2 2 twoI [120] [47, 120, 47, 121] false false 0 _ hr (by decide +kernel) (by decide) (by decide) (hv.below hbv)).mono ?_
    rintro e w' ⟨a, c, rfl, ho, hx⟩
    rw [two_pick] at ho ⊢
    exact ⟨⟨a, c, rfl, ho.row encI_len⟩, hbv.trans (hx.mono hbv.size)⟩
  have HX := fun v a c (hr : RowOf encI 11 v a 2 c [⟨[98], [120], [47, 120], [50], false, false, false, false, 0, 0, 0⟩, ⟨[97], [120], [47], [49], false, false, false, false, 0, 0, 0⟩]) (hv : MTb v) => matchTextC a 2 c _ v hr (by decide +kernel) hv
  simp only [two_text] at HX
  have e1 : str [98, 61, 50, 59, 32, 97, 61, 49] = ⟨#[98, 61, 50, 59, 32, 97, 61, 49]⟩ := rfl
  simp only [e1] at HX
  have hT1 := hT.below hb
  have u0 := o1.cell 0 rfl; have u1 := o1.cell 1 rfl; have u2 := o1.cell 2 rfl; have u3 := o1.cell 3 rfl; have u4 := o1.cell 4 rfl; have u5 := o1.cell 5 rfl; have u6 := o1.cell 6 rfl; have u7 := o1.cell 7 rfl; have u8 := o1.cell 8 rfl; have u9 := o1.cell 9 rfl; have u10 := o1.cell 10 rfl
  have v0 := o2.cell 0 rfl; have v1 := o2.cell 1 rfl; have v2 := o2.cell 2 rfl; have v3 := o2.cell 3 rfl; have v4 := o2.cell 4 rfl; have v5 := o2.cell 5 rfl; have v6 := o2.cell 6 rfl; have v7 := o2.cell 7 rfl; have v8 := o2.cell 8 rfl; have v9 := o2.cell 9 rfl; have v10 := o2.cell 10 rfl
  have s2 : ((w.alloc (.cells #[.string ⟨#[97]⟩, .string ⟨#[120]⟩, .string ⟨#[47]⟩, .string ⟨#[49]⟩, .bool false, .bool false, .bool false, .bool false, .int .i64 0, .int .i64 0, .int .i64 0] 27)).alloc (.cells #[.string ⟨#[98]⟩, .string ⟨#[120]⟩, .string ⟨#[47, 120]⟩, .string ⟨#[50]⟩, .bool false, .bool false, .bool false, .bool false, .int .i64 0, .int .i64 0, .int .i64 0] 27)).heap.size = w.heap.size + 2 := by simp
  have HP2 := HP _ hT1
  rw [s2] at HP2
  clear o1 o2 HP
  go_enter Tryd.func7, Tryd.ntmps7
  go_wp2_with (first
    | (go_at_call 15; (with_reducible refine HP2.mono ?_); rintro e w3 ⟨⟨pa, pc, rfl, hr⟩, hx⟩; rw [← s2] at hx; have hT3 := hT1.below hx; have hb3 := hb.trans (hx.mono hb.size); clear hx)
    | (go_at_call 16; (with_reducible refine (HX _ _ _ hr hT3).mono ?_); rintro e w4 ⟨rfl, hx⟩; have hb4 := hb3.trans (hx.mono hb3.size); clear hx))
  go_ret
  exact ⟨rfl, hb4⟩

set_option maxHeartbeats 2000000 in
set_option maxRecDepth 100000 in
theorem matchSorts_walk (a : Option Addr) (n c : Nat) (L : List ItemL) (w : World) (hL : RowOf encI 11 w a n c L) (hS : ∀ x ∈ L, fitI x) (hT : MTb w) :
    Calls Tryd.prog 4 #[.slice a n c] w fun e w' => e = .returned (.bool true) ∧ Below w.heap.size w w' := by
  have HL := fun v (hv : RowOf encI 11 v a n c L) => light15C a n c L v hv hS
  have hb0 := Below.refl w.heap.size w
  cases hl : lightI L with
  | false =>
    simp only [hl] at HL
    go_enter Tryd.func4, Tryd.ntmps4
    go_wp2_with (first
      | (go_at_call 6; (with_reducible refine (HL _ hL).mono ?_); rintro e w1 ⟨rfl, rfl⟩)
      | (go_at_call 7; (with_reducible refine (awake15C _ hT).mono ?_); rintro e w2 ⟨rfl, hx⟩))
    go_ret
    exact ⟨rfl, hx⟩
  | true =>
    simp only [hl] at HL
    have hn60 : n ≤ 60 := by
      unfold lightI at hl
      rw [Bool.and_eq_true, decide_eq_true_iff, hL.leq] at hl
      exact hl.1
    obtain ⟨i0, hi, hz0, hz1, hz2⟩ := info_parts infoItem
    have hown0 := OwnZ.lit encI 11 27 w
    have hbel0 := below_alloc w (.cells #[] 27)
    have hL0 := hL.below hbel0
    have HP := fun v (hv : RowOf encI 11 v a n c L) t => matchSortC a n c L v hv hl t
    have HQ := fun v (hv : RowOf encI 11 v a n c L) => refSortIC a n c L v hv (fun x hx => (hS x hx).2.2.1) (by omega)
    unfold GivesZ at HP HQ
    have hs : sameL (sortI L) (sortI L) = true := sameL_iff.2 rfl
    have hs2 : sameL L ([] ++ L) = true := sameL_iff.2 rfl
    go_enter Tryd.func4, Tryd.ntmps4
    go_wp2_with (first
      | (go_at_call 6; (with_reducible refine (HL _ hL).mono ?_); rintro e w1 ⟨rfl, rfl⟩)
      | (at_builtin; refine wpList_append_rows encI_len (by decide) encI_one (by rfl) (.tmp 9) (.tmp 10) 29 (by rfl) 27 i0 (.agg #[.string ⟨#[]⟩, .string ⟨#[]⟩, .string ⟨#[]⟩, .string ⟨#[]⟩, .bool false, .bool false, .bool false, .bool false, .int .i64 0, .int .i64 0, .int .i64 0]) 96 Tryd.underlying29 hi hz0 hz1 hz2 rfl  hown0 rfl hL0 rfl n (by omega) (by unfold maxLen; omega) (by omega) hbel0.size ?_; intro a2 c2 w2 hO2 hb2 hg2 ha2; have hB2 := hbel0.trans hb2; have hL2 := hL.below hB2; have hr2 := hO2.row encI_len; have hT2 := hT.below hB2)
      | (go_at_call 12; (with_reducible refine (HP _ hL2 hT2).mono ?_); rintro e w3 ⟨a3, c3, rfl, hO3, hx⟩; have hB3 := hB2.trans (hx.mono hB2.size); have hL3 := hL.below hB3; have hr3 := hr2.below hx; have hs3 := hO3.row encI_len; have hT3 := hT.below hB3; clear hx)
      | (go_at_call 14; (with_reducible refine (HQ _ hL3).mono ?_); rintro e w4 ⟨a4, c4, rfl, hO4, hx⟩; have hB4 := hB3.trans (hx.mono hB3.size); have hL4 := hL.below hB4; have hr4 := hr3.below hx; have hs4 := hs3.below hx; have ht4 := hO4.row encI_len; have hT4 := hT.below hB4; clear hx)
      | (go_at_call 13; (with_reducible refine (refSameIC _ _ _ _ _ _ _ _ _ hs4 ht4).mono ?_); rintro e w5 ⟨rfl, q5, rfl⟩; rw [hs]; have hB5 := below_drawn hB4 q5; have hL5 := hL.below hB5; have hr5 := hr4.below (below_drawn (Below.refl _ _) q5))
      | (go_at_call 13; (with_reducible refine (refSameIC _ _ _ _ _ _ _ _ _ hL5 hr5).mono ?_); rintro e w6 ⟨rfl, q6, rfl⟩; rw [hs2]; have hB6 := below_drawn hB5 q6; have hT6 := hT.below hB6; rw [World.drewN_drewN] at hB6 hT6)
      | (go_at_call 7; (with_reducible refine (awake15C _ hT6).mono ?_); rintro e w7 ⟨rfl, hx⟩; have hB7 := hB6.trans (hx.mono hB6.size)))
    go_ret
    exact ⟨rfl, hB7⟩
end Go.Proofs.YtjocnhkapiiblaaDoor
