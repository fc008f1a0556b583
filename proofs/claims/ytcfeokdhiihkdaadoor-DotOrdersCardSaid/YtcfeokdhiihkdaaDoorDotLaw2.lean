/- Layer 16's laws, walked: which dot is ahead, the next one, a dot's text. -/
import Derived.Test.YtcfeokdhiihkdaaDoorLibAH
import Derived.Deep.DeepCutAuto
import Derived.Deep.RegionHeld3
namespace Go.Proofs.YtcfeokdhiihkdaaDoor
open Go.RowKit
set_option linter.unusedVariables false

/-- What lies there while the law runs: both dots, boxed. -/
structure StO (w : World) (x y : DotN) (wx : World) : Prop where
  o1 : ObjAt wx w.heap.size (encD x)
  o2 : ObjAt wx (w.heap.size + 1) (encD y)
  hb : Below w.heap.size w wx
  tb : DTb wx
theorem StO.below {w wx w' : World} {x y : DotN} (h : StO w x y wx) (hx : Below wx.heap.size wx w') : StO w x y w' :=
  ⟨h.o1.below hx h.o1.lt, h.o2.below hx h.o2.lt, h.hb.trans (hx.mono h.hb.size), h.tb.below hx⟩
theorem StO.cells {w wx : World} {x y : DotN} (h : StO w x y wx) : wx.cell? ⟨w.heap.size, 0, none⟩ = some (.int .i64 x.dev) ∧ wx.cell? ⟨w.heap.size, 1, none⟩ = some (.int .i64 x.inc) ∧ wx.cell? ⟨w.heap.size, 2, none⟩ = some (.int .i64 x.seq) ∧ wx.cell? ⟨w.heap.size + 1, 0, none⟩ = some (.int .i64 y.dev) ∧ wx.cell? ⟨w.heap.size + 1, 1, none⟩ = some (.int .i64 y.inc) ∧ wx.cell? ⟨w.heap.size + 1, 2, none⟩ = some (.int .i64 y.seq) :=
  ⟨h.o1.cell 0 rfl, h.o1.cell 1 rfl, h.o1.cell 2 rfl, h.o2.cell 0 rfl, h.o2.cell 1 rfl, h.o2.cell 2 rfl⟩

theorem StO.set {w wx : World} {x y : DotN} (h : StO w x y wx) (hT : DTb w) {p : Addr} (hp : w.heap.size + 1 < p.block) (v : Value) : StO w x y (wx.setCell p v) := by
  have hb : Below w.heap.size w (wx.setCell p v) := h.hb.setCell (by omega) v
  exact ⟨h.o1.other (by omega) v, h.o2.other (by omega) v, hb, hT.below hb⟩

set_option maxHeartbeats 8000000 in
set_option maxRecDepth 100000 in
theorem dotOrders_walk (x y : DotN) (w : World) (hx : FitD x) (hy : FitD y) (hT : DTb w) :
    Calls Tryd.prog 3 #[.agg #[.int .i64 x.dev, .int .i64 x.inc, .int .i64 x.seq], .agg #[.int .i64 y.dev, .int .i64 y.inc, .int .i64 y.seq]] w fun e w' => e = .returned (.bool true) ∧ Below w.heap.size w w' := by
  obtain ⟨o1, o2, hb⟩ := two_objs w #[.int .i64 x.dev, .int .i64 x.inc, .int .i64 x.seq] #[.int .i64 y.dev, .int .i64 y.inc, .int .i64 y.seq] 25 25
  have hS : StO w x y _ := ⟨o1, o2, hb, hT.below hb⟩
  clear o1 o2 hb
  obtain ⟨N, E, hN⟩ : ∃ N E, nextD x = (N, E) := ⟨_, _, rfl⟩
  have HN := fun v t => dotNextC x v hx t
  rw [hN] at HN
  dsimp only at HN
  have HR := fun v => refDRightC x v
  have HA1 := fun v => refAheadAC x.dev x.inc y.dev y.inc v
  have HA2 := fun v => refAheadAC y.dev y.inc x.dev x.inc v
  obtain ⟨c0, c1, c2, d0, d1, d2⟩ := hS.cells
  have HNX := Lib.hid hN
  clear hN
  go_enter Tryd.func3, Tryd.ntmps3
  go_upto_region 3 with (go_at_call 6; (with_reducible refine (HN _ hS.tb).mono ?_); rintro e w2 ⟨rfl, hx2⟩; have hS2 := hS.below hx2; clear hx2; have o5 := ObjAt.new w2 #[.int .i64 N.dev, .int .i64 N.inc, .int .i64 N.seq] 25; have b5 := below_alloc w2 (.cells #[.int .i64 N.dev, .int .i64 N.inc, .int .i64 N.seq] 25); have hS3 := hS2.below b5; clear b5; obtain ⟨f0, f1, f2, _, _, _⟩ := hS3.cells)
  have b7 := below_alloc (w2.alloc (.cells #[.int .i64 N.dev, .int .i64 N.inc, .int .i64 N.seq] 25)) (.cells #[.int .i64 x.dev, .int .i64 x.inc, .int .i64 x.seq] 25)
  have hS4 := hS3.below b7
  have o7 := ObjAt.new (w2.alloc (.cells #[.int .i64 N.dev, .int .i64 N.inc, .int .i64 N.seq] 25)) #[.int .i64 x.dev, .int .i64 x.inc, .int .i64 x.seq] 25
  have o5 := o5.below b7 o5.lt
  have hlt5 := hS2.o2.lt
  have hs7 : (w2.alloc (.cells #[.int .i64 N.dev, .int .i64 N.inc, .int .i64 N.seq] 25)).heap.size = w2.heap.size + 1 := by simp
  rw [hs7] at o7
  obtain ⟨g0, g1, g2, _, _, _⟩ := hS4.cells
  generalize hB : w2.heap.size = B at *
  clear c0 c1 c2 d0 d1 d2 f0 f1 f2 hS hS2 hS3 HN b7
  go_cut [22] (fun s22 wx => s22 = .bool (decide (rightD x = true ∧ x.seq < 4294967296)) ∧ StO w x y wx ∧ ObjAt wx B (encD N) ∧ ObjAt wx (B + 1) (encD x))
  case first =>
    cases hr : rightD x with
    | false =>
      simp only [hr] at HR
      go_wp2_with (go_at_call 7; (with_reducible refine (HR _).mono ?_); rintro e w6 ⟨rfl, hx6⟩; have hS6 := hS4.below hx6; have o56 := o5.below hx6 o5.lt; have o76 := o7.below hx6 o7.lt; obtain ⟨k0, k1, k2, _, _, _⟩ := hS6.cells)
      go_meet
      exact ⟨by simp [hr], hS6, o56, o76⟩
    | true =>
      simp only [hr] at HR
      go_wp2_with (go_at_call 7; (with_reducible refine (HR _).mono ?_); rintro e w6 ⟨rfl, hx6⟩; have hS6 := hS4.below hx6; have o56 := o5.below hx6 o5.lt; have o76 := o7.below hx6 o7.lt; obtain ⟨k0, k1, k2, _, _, _⟩ := hS6.cells)
      go_meet
      exact ⟨by simp [hr], hS6, o56, o76⟩
  case rest =>
  clear hS4 o5 o7 g0 g1 g2 HR
  obtain ⟨rfl, hS5, o5, o7⟩ := hcut
  obtain ⟨t, ht⟩ : ∃ t, decide (rightD x = true ∧ x.seq < 4294967296) = t := ⟨_, rfl⟩
  rw [ht]
  obtain ⟨c0, c1, c2, d0, d1, d2⟩ := hS5.cells
  have f0 := o5.cell 0 rfl; have f1 := o5.cell 1 rfl; have f2 := o5.cell 2 rfl
  have m0 := o7.cell 0 rfl; have m1 := o7.cell 1 rfl; have m2 := o7.cell 2 rfl
  have n2 := o7.free 2
  have hne : ∀ (wx : World) (v : Value) (j : Nat), (wx.setCell ⟨B + 1, 2, none⟩ v).cell? ⟨B, j, none⟩ = wx.cell? ⟨B, j, none⟩ := fun wx v j => World.cell?_setCell_other wx _ _ v (fun c => by have q := congrArg Addr.block c; simp at q)
  go_upto_if 22 with fail
  go_cut [] (fun wx => StO w x y wx)
  case first =>
    cases t with
    | true =>
      obtain ⟨hr, hs⟩ := of_decide_eq_true ht
      have hn := HNX.out
      unfold nextD at hn
      rw [if_pos ⟨hr, hs⟩] at hn
      cases hn
      have hlo := (right_range hr).2.2.2.2.1
      have hw64 : wrap64 (x.seq + 1) = x.seq + 1 := by unfold wrap64; omega
      have HE := fun v => eqDot ⟨x.dev, x.inc, x.seq + 1⟩ ⟨x.dev, x.inc, x.seq + 1⟩ v
      simp only [show sameD ⟨x.dev, x.inc, x.seq + 1⟩ ⟨x.dev, x.inc, x.seq + 1⟩ = true from sameD_iff.2 rfl] at HE
      clear HNX ht hr
      go_wp2_with fail
      go_meet
      exact hS5.set hT (by show w.heap.size + 1 < B + 1; omega) _
    | false =>
      have hn := HNX.out
      unfold nextD at hn
      rw [if_neg (of_decide_eq_false ht)] at hn
      cases hn
      have HE := fun v => eqDot ⟨0, 0, 0⟩ ⟨0, 0, 0⟩ v
      simp only [show sameD ⟨0, 0, 0⟩ ⟨0, 0, 0⟩ = true from sameD_iff.2 rfl] at HE
      clear HNX ht
      go_wp2_with fail
      go_meet
      exact hS5
  case rest =>
  clear hS5 o5 o7 c0 c1 c2 d0 d1 d2 f0 f1 f2 m0 m1 m2 n2 hne HNX ht
  rename_i wd
  have hS := hcut
  clear hcut
  obtain ⟨c0, c1, c2, d0, d1, d2⟩ := hS.cells
  obtain ⟨A1, hA1⟩ : ∃ t, aheadA x.dev x.inc y.dev y.inc = t := ⟨_, rfl⟩
  obtain ⟨A2, hA2⟩ : ∃ t, aheadA y.dev y.inc x.dev x.inc = t := ⟨_, rfl⟩
  simp only [hA1] at HA1
  simp only [hA2] at HA2
  go_upto_if 45 with (go_at_call 8; (with_reducible refine (HA1 _).mono ?_); rintro e w6 ⟨rfl, hx6⟩; have hS6 := hS.below hx6; obtain ⟨k0, k1, k2, l0, l1, l2⟩ := hS6.cells)
  go_cut [8] (fun s8 wx => s8 = .int .i64 (if A1 = true then -1 else 0) ∧ wx = w6)
  case first =>
    cases A1
    all_goals (
      go_wp2_with fail
      go_meet
      exact ⟨rfl, rfl⟩)
  case rest =>
  obtain ⟨rfl, rfl⟩ := hcut
  obtain ⟨C1, hC1⟩ : ∃ c, (if A1 = true then (-1 : Int) else 0) = c := ⟨_, rfl⟩
  obtain ⟨C, hC⟩ : ∃ c, cmpA x.dev x.inc y.dev y.inc = c := ⟨_, rfl⟩
  have hCC : C = if A2 = true then 1 else C1 := by
    rw [← hC, ← hC1]
    unfold cmpA
    rw [hA1, hA2]
    cases A1 with
    | true => rw [← hA2, ahead_once hA1]; rfl
    | false => rfl
  rw [hC1]
  clear c0 c1 c2 d0 d1 d2 hS HA1 hA1 hA2
  go_upto_if 50 with (go_at_call 8; (with_reducible refine (HA2 _).mono ?_); rintro e w7 ⟨rfl, hx7⟩; have hS7 := hS6.below hx7)
  go_cut [8] (fun s8 wx => s8 = .int .i64 C ∧ wx = w7)
  case first =>
    cases A2
    all_goals (
      go_wp2_with fail
      go_meet
      exact ⟨by rw [hCC]; rfl, rfl⟩)
  case rest =>
  obtain ⟨rfl, rfl⟩ := hcut
  clear k0 k1 k2 l0 l1 l2 hS6 HA2 hx6 hx7 hCC hC1
  go_upto_region 14 with fail
  go_cut [9] (fun s9 wx => s9 = .string (str (textD x)) ∧ StO w x y wx)
  case first =>
    have HT1 : ∀ v, Calls Tryd.prog 9 #[.int .i64 x.dev] v (GivesStr (Lib.itoa x.dev) v) := fun v => refTextC x.dev hx.dev.1 hx.dev.2 v
    have HT2 : ∀ v, Calls Tryd.prog 9 #[.int .i64 x.inc] v (GivesStr (Lib.itoa x.inc) v) := fun v => refTextC x.inc hx.inc.1 hx.inc.2 v
    have HT3 : ∀ v, Calls Tryd.prog 9 #[.int .i64 x.seq] v (GivesStr (Lib.itoa x.seq) v) := fun v => refTextC x.seq hx.seq.1 hx.seq.2 v
    have l1 := Lib.itoa_length_le x.dev hx.dev.1 hx.dev.2
    have l2 := Lib.itoa_length_le x.inc hx.inc.1 hx.inc.2
    have l3 := Lib.itoa_length_le x.seq hx.seq.1 hx.seq.2
    have hte : textD x = (((Lib.itoa x.dev ++ [46]) ++ Lib.itoa x.inc) ++ [46]) ++ Lib.itoa x.seq := rfl
    generalize Lib.itoa x.dev = y1 at *
    generalize Lib.itoa x.inc = y2 at *
    generalize Lib.itoa x.seq = y3 at *
    have ha1 : ∀ w, (Op.stringOp .add (str y1) ⟨#[46]⟩).run Tryd.prog w = .ok (.string (str (y1 ++ [46]))) w := fun w => run_add_str (P := Tryd.prog) w y1 [46] (by simp; omega)
    have ha2 := fun w => run_add_str (P := Tryd.prog) w (y1 ++ [46]) y2 (by simp; omega)
    have ha3 : ∀ w, (Op.stringOp .add (str ((y1 ++ [46]) ++ y2)) ⟨#[46]⟩).run Tryd.prog w = .ok (.string (str (((y1 ++ [46]) ++ y2) ++ [46]))) w := fun w => run_add_str (P := Tryd.prog) w ((y1 ++ [46]) ++ y2) [46] (by simp; omega)
    have ha4 := fun w => run_add_str (P := Tryd.prog) w (((y1 ++ [46]) ++ y2) ++ [46]) y3 (by simp; omega)
    obtain ⟨z1, e1⟩ : ∃ z, y1 ++ [46] = z := ⟨_, rfl⟩
    rw [e1] at ha1 ha2 ha3 ha4 hte
    obtain ⟨z2, e2⟩ : ∃ z, z1 ++ y2 = z := ⟨_, rfl⟩
    rw [e2] at ha2 ha3 ha4 hte
    obtain ⟨z3, e3⟩ : ∃ z, z2 ++ [46] = z := ⟨_, rfl⟩
    rw [e3] at ha3 ha4 hte
    obtain ⟨z4, e4⟩ : ∃ z, z3 ++ y3 = z := ⟨_, rfl⟩
    rw [e4] at ha4 hte
    have HTE := Lib.hid hte
    clear hte l1 l2 l3 e1 e2 e3 e4
    have hS0 : ∀ w', Below wc.heap.size wc w' → w'.cell? ⟨w.heap.size, 0, none⟩ = some (.int .i64 x.dev) ∧ w'.cell? ⟨w.heap.size, 1, none⟩ = some (.int .i64 x.inc) ∧ w'.cell? ⟨w.heap.size, 2, none⟩ = some (.int .i64 x.seq) := fun w' h => by
      obtain ⟨c0, c1, c2, _, _, _⟩ := (hS7.below h).cells
      exact ⟨c0, c1, c2⟩
    have hB1 : Below wc.heap.size wc wc.drew := (Below.refl _ wc).drew
    go_region_held3 (fun w' => w'.cell? ⟨w.heap.size, 0, none⟩ = some (.int .i64 x.dev) ∧ w'.cell? ⟨w.heap.size, 1, none⟩ = some (.int .i64 x.inc) ∧ w'.cell? ⟨w.heap.size, 2, none⟩ = some (.int .i64 x.seq))
      (first | exact hS0 _ hB1)
      (first
        | (go_at_call 9; (with_reducible refine (HT1 _).mono ?_); rintro e w8 ⟨rfl, hx⟩; have hB1 := hB1.trans (hx.mono hB1.size); clear hx)
        | (go_at_call 9; (with_reducible refine (HT2 _).mono ?_); rintro e w8 ⟨rfl, hx⟩; have hB1 := hB1.trans (hx.mono hB1.size); clear hx)
        | (go_at_call 9; (with_reducible refine (HT3 _).mono ?_); rintro e w8 ⟨rfl, hx⟩; have hB1 := hB1.trans (hx.mono hB1.size); clear hx))
    all_goals (
      go_wp2_with fail
      go_meet
      exact ⟨by rw [HTE.out], hS7.below hB1⟩)
  case rest =>
  obtain ⟨rfl, hS8⟩ := hcut
  clear hS7
  have H1 := fun v t => dotRightC x v t
  have H2 := fun v => refDRightC x v
  have H3 := fun v t => dotActorC x.dev x.inc v t
  have H4 := fun v => refActorC x.dev x.inc v
  have H5 := fun v t => dotLessC x y v t
  have H6 := fun v => refDLessC x y v
  have H7 := fun v t => dotCompareC x.dev x.inc y.dev y.inc v t
  have H8 := fun v t => dotTextC x v hx t
  rw [hC] at H7
  generalize textD x = T at *
  generalize rightD x = R at *
  generalize actorD x.dev x.inc = Q at *
  generalize lessD x y = S at *
  clear hC
  have hS0 : ∀ w', Below wc.heap.size wc w' → w'.cell? ⟨w.heap.size, 0, none⟩ = some (.int .i64 x.dev) ∧ w'.cell? ⟨w.heap.size, 1, none⟩ = some (.int .i64 x.inc) ∧ w'.cell? ⟨w.heap.size, 2, none⟩ = some (.int .i64 x.seq) ∧ w'.cell? ⟨w.heap.size + 1, 0, none⟩ = some (.int .i64 y.dev) ∧ w'.cell? ⟨w.heap.size + 1, 1, none⟩ = some (.int .i64 y.inc) ∧ w'.cell? ⟨w.heap.size + 1, 2, none⟩ = some (.int .i64 y.seq) := fun w' h => (hS8.below h).cells
  have hB1 : Below wc.heap.size wc wc.drew := (Below.refl _ wc).drew
  go_wp2_with fail
  go_region_held3 (fun w' => w'.cell? ⟨w.heap.size, 0, none⟩ = some (.int .i64 x.dev) ∧ w'.cell? ⟨w.heap.size, 1, none⟩ = some (.int .i64 x.inc) ∧ w'.cell? ⟨w.heap.size, 2, none⟩ = some (.int .i64 x.seq) ∧ w'.cell? ⟨w.heap.size + 1, 0, none⟩ = some (.int .i64 y.dev) ∧ w'.cell? ⟨w.heap.size + 1, 1, none⟩ = some (.int .i64 y.inc) ∧ w'.cell? ⟨w.heap.size + 1, 2, none⟩ = some (.int .i64 y.seq))
    (first | exact hS0 _ hB1)
    (first
        | (go_at_call 10; (with_reducible refine (H1 _ (hS8.tb.below hB1)).mono ?_); rintro e w9 ⟨rfl, hx⟩; have hB1 := hB1.trans (hx.mono hB1.size); clear hx)
        | (go_at_call 7; (with_reducible refine (H2 _).mono ?_); rintro e w9 ⟨rfl, hx⟩; have hB1 := hB1.trans (hx.mono hB1.size); clear hx)
        | (go_at_call 11; (with_reducible refine (H3 _ (hS8.tb.below hB1)).mono ?_); rintro e w9 ⟨rfl, hx⟩; have hB1 := hB1.trans (hx.mono hB1.size); clear hx)
        | (go_at_call 12; (with_reducible refine (H4 _).mono ?_); rintro e w9 ⟨rfl, hx⟩; have hB1 := hB1.trans (hx.mono hB1.size); clear hx)
        | (go_at_call 13; (with_reducible refine (H5 _ (hS8.tb.below hB1)).mono ?_); rintro e w9 ⟨rfl, hx⟩; have hB1 := hB1.trans (hx.mono hB1.size); clear hx)
        | (go_at_call 14; (with_reducible refine (H6 _).mono ?_); rintro e w9 ⟨rfl, hx⟩; have hB1 := hB1.trans (hx.mono hB1.size); clear hx)
        | (go_at_call 15; (with_reducible refine (H7 _ (hS8.tb.below hB1)).mono ?_); rintro e w9 ⟨rfl, hx⟩; have hB1 := hB1.trans (hx.mono hB1.size); clear hx)
        | (go_at_call 16; (with_reducible refine (H8 _ (hS8.tb.below hB1)).mono ?_); rintro e w9 ⟨rfl, hx⟩; have hB1 := hB1.trans (hx.mono hB1.size); clear hx)
        | (go_at_call 17; (with_reducible refine (awake16C _ (hS8.tb.below hB1)).mono ?_); rintro e w9 ⟨rfl, hx⟩; have hB1 := hB1.trans (hx.mono hB1.size); clear hx))
  all_goals (
    go_wp2
    go_ret
    exact ⟨rfl, hS8.hb.trans (hB1.mono hS8.hb.size)⟩)
end Go.Proofs.YtcfeokdhiihkdaaDoor
