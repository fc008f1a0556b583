/- Contracts of the reference of layer 14: what is made of a header's pair and attributes: no domain is said. -/
import Derived.Test.YthefieemngmnjaaGreatDoorCookieMk
namespace Go.Proofs.YthefieemngmnjaaGreatDoor
open Go.RowKit
set_option linter.unusedVariables false

set_option maxHeartbeats 8000000 in
set_option maxRecDepth 100000 in
theorem refMakeA (a : Option Addr) (len cap : Nat) (R : List (List UInt8)) (gh p : List UInt8) (sec script : Bool) (head : List UInt8) (now : Int) (w : World) (q1 q2 : List UInt8) (L : List (List UInt8 × List UInt8)) (hexp hage hpath : Bool) (ex ag : Int) (dm pa : List UInt8) (se ht : Bool) (xn xd xp xv : List UInt8) (xh xs xt xq : Bool) (xe xm xu code : Int)
    (hR : IsStrs w a len cap R) (hlen : ¬ 256 < len) (hru : R.all ruleB = true) (hrr : rightU gh p sec = true) (l1 : gh.length ≤ 2000) (l2 : p.length ≤ 2000) (ldm : dm.length ≤ 10000) (lpa : pa.length ≤ 10000) (hag : -9223372036854775808 ≤ ag ∧ ag ≤ 9223372036854775807) 
    (HP : ∀ w, Calls Tryz.prog 27 #[.string (str head)] w fun e w' => (∃ a n c, e = .returned (.tuple #[.agg #[.string (str q1), .string (str q2)], .slice a n c, .int .i64 0]) ∧ RowOf encP 2 w' a n c L) ∧ Below w.heap.size w w')
    (HA : ∀ a n c w, RowOf encP 2 w a n c L → Calls Tryz.prog 28 #[.slice a n c] w fun e w' => e = .returned (.agg #[.bool hexp, .bool hage, .bool false, .bool hpath, .int .i64 ex, .int .i64 ag, .string (str dm), .string (str pa), .bool se, .bool ht]) ∧ Below w.heap.size w w')
    (HX : Hid (makeOf R gh p script (q1, q2) ⟨hexp, hage, false, hpath, ex, ag, dm, pa, se, ht⟩ (clampA now) = (⟨xn, xd, xp, xv, xh, xs, xt, xq, xe, xm, xu⟩, code))) :
    Calls Tryz.prog 10 #[.slice a len cap, .agg #[.string (str gh), .string (str p), .bool sec, .bool script], .string (str head), .int .i64 now] w fun e w' => e = .returned (.tuple #[.agg #[.string (str xn), .string (str xd), .string (str xp), .string (str xv), .bool xh, .bool xs, .bool xt, .bool xq, .int .i64 xe, .int .i64 xm, .int .i64 xu], .int .i64 code]) ∧ Below w.heap.size w w' := by
  obtain ⟨o5, o8, hb⟩ := two_new w #[.string (str gh), .string (str p), .bool sec, .bool script] #[.string ⟨#[]⟩, .string ⟨#[]⟩, .string ⟨#[]⟩, .string ⟨#[]⟩, .bool false, .bool false, .bool false, .bool false, .int .i64 0, .int .i64 0, .int .i64 0] 24 34
  have hA : StA w _ [.string (str gh), .string (str p), .bool sec, .bool script] [.string ⟨#[]⟩, .string ⟨#[]⟩, .string ⟨#[]⟩, .string ⟨#[]⟩, .bool false, .bool false, .bool false, .bool false, .int .i64 0, .int .i64 0, .int .i64 0] := ⟨o5, o8, hb⟩
  have hR0 := hR.below hA.hb
  have HRl := fun v hv => refRightC a len cap R v hv
  have HRu := fun v => refURightC gh p sec script gh.length p.length v rfl (by omega) rfl (by omega)
  have HC := fun v => refCanonC dm dm.length v rfl (by unfold maxLen; omega)
  have HPb := fun v hv => refPublicC a len cap R dm dm.length v hv rfl (by unfold maxLen; omega)
  have HMt := fun v => refMatchC gh dm gh.length dm.length v rfl (by unfold maxLen; omega) rfl (by unfold maxLen; omega)
  have HD := fun v => refDefaultC p p.length v rfl (by unfold maxLen; omega)
  have HE := fun N v => refExpiryC hexp hage false hpath ex ag dm pa se ht N v hag
  simp only [hru] at HRl
  simp only [hrr] at HRu
  have hlen' : ¬ (256 : Int) < (len : Int) := by omega
  have hk := str_toList
  clear o5 o8 hb hlen l1 l2 ldm lpa hag hru hrr
  go_enter Tryz.func10, Tryz.ntmps10
  go_upto_region 5 with (first
    | (go_at_call 25; (with_reducible refine (HRl _ hR0).mono ?_); rintro e w2 ⟨rfl, hx⟩; replace hA := hA.below hx; clear hx; have u0 := (hA.o5).cell 0 rfl; have u1 := (hA.o5).cell 1 rfl; have u2 := (hA.o5).cell 2 rfl; have u3 := (hA.o5).cell 3 rfl; skip)
    | (go_at_call 26; (with_reducible refine (HRu _).mono ?_); rintro e w3 ⟨rfl, hx⟩; replace hA := hA.below hx; clear hx u0 u1 u2 u3))
  go_cut [10, 11, 12] (fun s10 s11 s12 wx => ∃ B la ln lc, s10 = .pointer (some ⟨B, 0, none⟩) ∧ s11 = .slice la ln lc ∧ s12 = .int .i64 0 ∧ RowOf encP 2 wx la ln lc L ∧ StA w wx [.string (str gh), .string (str p), .bool sec, .bool script] [.string ⟨#[]⟩, .string ⟨#[]⟩, .string ⟨#[]⟩, .string ⟨#[]⟩, .bool false, .bool false, .bool false, .bool false, .int .i64 0, .int .i64 0, .int .i64 0] ∧ ObjAt wx B [.string (str q1), .string (str q2)] ∧ w.heap.size + 1 < B)
  case first =>
    go_wp2_with (go_at_call 27; (with_reducible refine (HP _).mono ?_); rintro e w4 ⟨⟨la, ln, lc, rfl, hL⟩, hx⟩; replace hA := hA.below hx; clear hx)
    go_meet
    have hx := below_alloc w4 (.cells #[.string (str q1), .string (str q2)] 60)
    exact ⟨w4.heap.size, la, ln, lc, rfl, rfl, rfl, hL.below hx, hA.below hx, ObjAt.new w4 #[.string (str q1), .string (str q2)] 60, hA.o8.lt⟩
  case rest =>
  clear hA hR0 HRl HRu HP
  obtain ⟨B10, la, ln, lc, rfl, rfl, rfl, hL, hA, o10, l1⟩ := hcut
  obtain ⟨n1, hn1⟩ : ∃ n, (if now < 0 then 0 else now) = n := ⟨_, rfl⟩
  have hcl := clamp_two now
  rw [hn1] at hcl
  go_upto_if 42 with fail
  go_cut [3] (fun s3 wx => s3 = .int .i64 n1 ∧ wx = wc)
  case first =>
    clear hcl
    by_cases c : now < 0
    · rw [if_pos c] at hn1
      go_wp2_with fail
      go_meet
      exact ⟨by first | rfl | rw [hn1], rfl⟩
    · rw [if_neg c] at hn1
      go_wp2_with fail
      go_meet
      exact ⟨by first | rfl | rw [hn1], rfl⟩
  case rest =>
  obtain ⟨rfl, rfl⟩ := hcut
  go_upto_if 44 with fail
  go_cut [3] (fun s3 wx => s3 = .int .i64 (clampA now) ∧ wx = wc)
  case first =>
    by_cases c : 1099511627776 < n1
    · rw [if_pos c] at hcl
      go_wp2_with fail
      go_meet
      exact ⟨by first | rfl | rw [hcl], rfl⟩
    · rw [if_neg c] at hcl
      go_wp2_with fail
      go_meet
      exact ⟨by first | rfl | rw [hcl], rfl⟩
  case rest =>
  obtain ⟨rfl, rfl⟩ := hcut
  clear hcl hn1 n1
  generalize clampA now = N at *
  have HE := HE N
  obtain ⟨en, eb, hen⟩ : ∃ en eb, expiryA ⟨hexp, hage, false, hpath, ex, ag, dm, pa, se, ht⟩ N = (en, eb) := ⟨_, _, rfl⟩
  simp only [hen] at HE
  go_upto_region 12 with fail
  go_cut [13] (fun s13 wx => ∃ B13, s13 = .pointer (some ⟨B13, 0, none⟩) ∧ StB w wx [.string (str gh), .string (str p), .bool sec, .bool script] [.string ⟨#[]⟩, .string ⟨#[]⟩, .string ⟨#[]⟩, .string ⟨#[]⟩, .bool false, .bool false, .bool false, .bool false, .int .i64 0, .int .i64 0, .int .i64 0] [.string (str q1), .string (str q2)] [.bool hexp, .bool hage, .bool false, .bool hpath, .int .i64 ex, .int .i64 ag, .string (str dm), .string (str pa), .bool se, .bool ht] B10 B13)
  case first =>
    go_wp2_with (go_at_call 28; (with_reducible refine (HA _ _ _ _ hL).mono ?_); rintro e w5 ⟨rfl, hx⟩; replace hA := hA.below hx; replace o10 := o10.below hx o10.lt; clear hx)
    go_meet
    have hx := below_alloc w5 (.cells #[.bool hexp, .bool hage, .bool false, .bool hpath, .int .i64 ex, .int .i64 ag, .string (str dm), .string (str pa), .bool se, .bool ht] 64)
    exact ⟨w5.heap.size, rfl, hA.below hx, o10.below hx o10.lt, ObjAt.new w5 #[.bool hexp, .bool hage, .bool false, .bool hpath, .int .i64 ex, .int .i64 ag, .string (str dm), .string (str pa), .bool se, .bool ht] 64, l1, o10.lt⟩
  case rest =>
  clear hA o10 l1 hL HA
  obtain ⟨B13, rfl, hB⟩ := hcut
  have HPb := fun v (hv : Below w.heap.size w v) => HPb v (hR.below hv)
  have z2 := (hB.o13).cell 2 rfl; have z6 := (hB.o13).cell 6 rfl; have u0 := (hB.A.o5).cell 0 rfl; skip
  have HY : Hid (makeBody false gh p script (q1, q2) ⟨hexp, hage, false, hpath, ex, ag, dm, pa, se, ht⟩ N = (⟨xn, xd, xp, xv, xh, xs, xt, xq, xe, xm, xu⟩, code)) := by unfold Hid; rw [← HX.out]; unfold makeOf; simp
  clear HX HC HPb HMt
  go_upto_region 22 with fail
  go_cut [15] (fun s15 wx => ∃ B15, s15 = .pointer (some ⟨B15, 0, none⟩) ∧ StC w wx [.string (str gh), .string (str p), .bool sec, .bool script] [.string ⟨#[]⟩, .string ⟨#[]⟩, .string ⟨#[]⟩, .string ⟨#[]⟩, .bool false, .bool false, .bool false, .bool false, .int .i64 0, .int .i64 0, .int .i64 0] [.string (str q1), .string (str q2)] [.bool hexp, .bool hage, .bool false, .bool hpath, .int .i64 ex, .int .i64 ag, .string (str dm), .string (str pa), .bool se, .bool ht] [.string ⟨#[]⟩, .string ⟨#[]⟩, .string ⟨#[]⟩, .string ⟨#[]⟩, .bool false, .bool false, .bool false, .bool false, .int .i64 0, .int .i64 0, .int .i64 0] B10 B13 B15)
  case first =>
    go_wp2_with fail
    go_meet
    exact ⟨_, rfl, hB.below (below_alloc _ _), ObjAt.new _ #[.string ⟨#[]⟩, .string ⟨#[]⟩, .string ⟨#[]⟩, .string ⟨#[]⟩, .bool false, .bool false, .bool false, .bool false, .int .i64 0, .int .i64 0, .int .i64 0] 34, hB.o13.lt⟩
  case rest =>
  clear hB z2 z6 u0
  obtain ⟨B15, rfl, hC⟩ := hcut
  obtain ⟨pp, hpp⟩ : ∃ q, (if hpath = true then pa else defaultL p) = q := ⟨_, rfl⟩
  unfold makeBody at HY
  dsimp only at HY
  rw [hpp, hen] at HY
  have y0 := (hC.B.o10).cell 0 rfl; have y1 := (hC.B.o10).cell 1 rfl; have u0 := (hC.B.A.o5).cell 0 rfl; have u1 := (hC.B.A.o5).cell 1 rfl; have z3 := (hC.B.o13).cell 3 rfl; have z6 := (hC.B.o13).cell 6 rfl; have z7 := (hC.B.o13).cell 7 rfl; have s0 := (hC.o15).cell 0 rfl; have s1 := (hC.o15).cell 1 rfl; have s2 := (hC.o15).cell 2 rfl; have s3 := (hC.o15).cell 3 rfl; have s4 := (hC.o15).cell 4 rfl; have t0 := (hC.o15).free 0; have t1 := (hC.o15).free 1; have t2 := (hC.o15).free 2; have t3 := (hC.o15).free 3; have t4 := (hC.o15).free 4; skip
  have n10 : ∀ (wx : World) (i j : Nat) (v : Value), (wx.setCell ⟨B15, i, none⟩ v).cell? ⟨B10, j, none⟩ = wx.cell? ⟨B10, j, none⟩ := fun wx i j v => World.cell?_setCell_other wx _ _ v (fun c => by have q := congrArg Addr.block c; have q1 := hC.B.l1; have q2 := hC.B.l2; have q3 := hC.l3; dsimp only at q; omega)
  have n13 : ∀ (wx : World) (i j : Nat) (v : Value), (wx.setCell ⟨B15, i, none⟩ v).cell? ⟨B13, j, none⟩ = wx.cell? ⟨B13, j, none⟩ := fun wx i j v => World.cell?_setCell_other wx _ _ v (fun c => by have q := congrArg Addr.block c; have q1 := hC.B.l1; have q2 := hC.B.l2; have q3 := hC.l3; dsimp only at q; omega)
  have n5 : ∀ (wx : World) (i j : Nat) (v : Value), (wx.setCell ⟨B15, i, none⟩ v).cell? ⟨w.heap.size, j, none⟩ = wx.cell? ⟨w.heap.size, j, none⟩ := fun wx i j v => World.cell?_setCell_other wx _ _ v (fun c => by have q := congrArg Addr.block c; have q1 := hC.B.l1; have q2 := hC.B.l2; have q3 := hC.l3; dsimp only at q; omega)
  go_upto_if 108 with fail
  go_cut [] (fun wx => StC w wx [.string (str gh), .string (str p), .bool sec, .bool script] [.string ⟨#[]⟩, .string ⟨#[]⟩, .string ⟨#[]⟩, .string ⟨#[]⟩, .bool false, .bool false, .bool false, .bool false, .int .i64 0, .int .i64 0, .int .i64 0] [.string (str q1), .string (str q2)] [.bool hexp, .bool hage, .bool false, .bool hpath, .int .i64 ex, .int .i64 ag, .string (str dm), .string (str pa), .bool se, .bool ht] [.string (str q1), .string (str gh), .string (str pp), .string (str q2), .bool true, .bool false, .bool false, .bool false, .int .i64 0, .int .i64 0, .int .i64 0] B10 B13 B15)
  case first =>
    cases hpath with
    | true =>
      rw [if_pos rfl] at hpp
      subst hpp
      go_wp2_with fail
      go_meet
      exact (((((hC.put 0 (.string (str q1))).put 3 (.string (str q2))).put 1 (.string (str gh))).put 4 (.bool true)).put 2 (.string (str pa)))
    | false =>
      rw [if_neg Bool.false_ne_true] at hpp
      rw [hpp] at HD
      go_wp2_with (go_at_call 30; (with_reducible refine (HD _).mono ?_); rintro e w9 ⟨rfl, rfl⟩)
      go_meet
      exact (((((hC.put 0 (.string (str q1))).put 3 (.string (str q2))).put 1 (.string (str gh))).put 4 (.bool true)).put 2 (.string (str pa))).put 2 _
  case rest =>
  clear hC y0 y1 u0 u1 z3 z6 z7 s0 s1 s2 s3 s4 t0 t1 t2 t3 t4 n10 n13 n5 HD
  have hC := hcut
  clear hcut
  obtain ⟨mp, hmp⟩ : ∃ m, pp.length = m := ⟨_, rfl⟩
  have hsp : (str pp).size = mp := by rw [str_size, hmp]
  rw [hmp] at HY
  have s2 := hC.o15.cell 2 rfl
  by_cases hlo : 256 < mp
  · have hlo' : (256 : Int) < (mp : Int) := by omega
    rw [if_pos hlo] at HY
    have hX := HY.out
    unfold ItemL.none at hX
    cases hX
    clear HY HE
    have v0 := (hC.B.A.o8).cell 0 rfl; have v1 := (hC.B.A.o8).cell 1 rfl; have v2 := (hC.B.A.o8).cell 2 rfl; have v3 := (hC.B.A.o8).cell 3 rfl; have v4 := (hC.B.A.o8).cell 4 rfl; have v5 := (hC.B.A.o8).cell 5 rfl; have v6 := (hC.B.A.o8).cell 6 rfl; have v7 := (hC.B.A.o8).cell 7 rfl; have v8 := (hC.B.A.o8).cell 8 rfl; have v9 := (hC.B.A.o8).cell 9 rfl; have v10 := (hC.B.A.o8).cell 10 rfl; have x0 := (hC.B.A.o8).free 0; have x1 := (hC.B.A.o8).free 1; have x2 := (hC.B.A.o8).free 2; have x3 := (hC.B.A.o8).free 3; have x4 := (hC.B.A.o8).free 4; have x5 := (hC.B.A.o8).free 5; have x6 := (hC.B.A.o8).free 6; have x7 := (hC.B.A.o8).free 7; have x8 := (hC.B.A.o8).free 8; have x9 := (hC.B.A.o8).free 9; have x10 := (hC.B.A.o8).free 10; skip
    go_wp2_with fail
    have o9 := (((((((((((hC.B.A.o8.set 0 (.string ⟨#[]⟩)).set 1 (.string ⟨#[]⟩)).set 2 (.string ⟨#[]⟩)).set 3 (.string ⟨#[]⟩)).set 4 (.bool false)).set 5 (.bool false)).set 6 (.bool false)).set 7 (.bool false)).set 8 (.int .i64 0)).set 9 (.int .i64 0)).set 10 (.int .i64 0))
    have r0 := o9.cell 0 rfl; have r1 := o9.cell 1 rfl; have r2 := o9.cell 2 rfl; have r3 := o9.cell 3 rfl; have r4 := o9.cell 4 rfl; have r5 := o9.cell 5 rfl; have r6 := o9.cell 6 rfl; have r7 := o9.cell 7 rfl; have r8 := o9.cell 8 rfl; have r9 := o9.cell 9 rfl; have r10 := o9.cell 10 rfl; have hbb := hC.B.A.hb
    exact bodyPost_ret (v := .tuple #[.agg #[.string ⟨#[]⟩, .string ⟨#[]⟩, .string ⟨#[]⟩, .string ⟨#[]⟩, .bool false, .bool false, .bool false, .bool false, .int .i64 0, .int .i64 0, .int .i64 0], .int .i64 3]) (by simp [results, Tryz.results10, go_sem, r0, r1, r2, r3, r4, r5, r6, r7, r8, r9, r10]) rfl ⟨rfl, (((((((((((hbb.setCell (p := ⟨w.heap.size + 1, 0, none⟩) (Nat.le_succ _) _).setCell (p := ⟨w.heap.size + 1, 1, none⟩) (Nat.le_succ _) _).setCell (p := ⟨w.heap.size + 1, 2, none⟩) (Nat.le_succ _) _).setCell (p := ⟨w.heap.size + 1, 3, none⟩) (Nat.le_succ _) _).setCell (p := ⟨w.heap.size + 1, 4, none⟩) (Nat.le_succ _) _).setCell (p := ⟨w.heap.size + 1, 5, none⟩) (Nat.le_succ _) _).setCell (p := ⟨w.heap.size + 1, 6, none⟩) (Nat.le_succ _) _).setCell (p := ⟨w.heap.size + 1, 7, none⟩) (Nat.le_succ _) _).setCell (p := ⟨w.heap.size + 1, 8, none⟩) (Nat.le_succ _) _).setCell (p := ⟨w.heap.size + 1, 9, none⟩) (Nat.le_succ _) _).setCell (p := ⟨w.heap.size + 1, 10, none⟩) (Nat.le_succ _) _)⟩
  have hlo' : ¬ (256 : Int) < (mp : Int) := by omega
  rw [if_neg hlo] at HY
  go_upto_region 34 with fail
  clear s2 hsp hmp hpp hlo'
  have z9 := hC.B.o13.cell 9 rfl; have u3 := hC.B.A.o5.cell 3 rfl
  go_cut [125] (fun s125 wx => s125 = .bool (ht && script) ∧ wx = wc)
  case first =>
    cases ht with
    | false =>
      go_wp2_with fail
      go_meet
      exact ⟨by first | rfl | simp, rfl⟩
    | true =>
      go_wp2_with fail
      go_meet
      exact ⟨by first | rfl | simp, rfl⟩
  case rest =>
  obtain ⟨rfl, rfl⟩ := hcut
  clear z9 u3
  cases hsc : (ht && script) with
  | true =>
    rw [Bool.and_eq_true] at hsc
    rw [if_pos hsc] at HY
    have hX := HY.out
    unfold ItemL.none at hX
    cases hX
    obtain ⟨rfl, rfl⟩ := hsc
    clear HY HE
    have v0 := (hC.B.A.o8).cell 0 rfl; have v1 := (hC.B.A.o8).cell 1 rfl; have v2 := (hC.B.A.o8).cell 2 rfl; have v3 := (hC.B.A.o8).cell 3 rfl; have v4 := (hC.B.A.o8).cell 4 rfl; have v5 := (hC.B.A.o8).cell 5 rfl; have v6 := (hC.B.A.o8).cell 6 rfl; have v7 := (hC.B.A.o8).cell 7 rfl; have v8 := (hC.B.A.o8).cell 8 rfl; have v9 := (hC.B.A.o8).cell 9 rfl; have v10 := (hC.B.A.o8).cell 10 rfl; have x0 := (hC.B.A.o8).free 0; have x1 := (hC.B.A.o8).free 1; have x2 := (hC.B.A.o8).free 2; have x3 := (hC.B.A.o8).free 3; have x4 := (hC.B.A.o8).free 4; have x5 := (hC.B.A.o8).free 5; have x6 := (hC.B.A.o8).free 6; have x7 := (hC.B.A.o8).free 7; have x8 := (hC.B.A.o8).free 8; have x9 := (hC.B.A.o8).free 9; have x10 := (hC.B.A.o8).free 10; skip
    go_wp2_with fail
    have o9 := (((((((((((hC.B.A.o8.set 0 (.string ⟨#[]⟩)).set 1 (.string ⟨#[]⟩)).set 2 (.string ⟨#[]⟩)).set 3 (.string ⟨#[]⟩)).set 4 (.bool false)).set 5 (.bool false)).set 6 (.bool false)).set 7 (.bool false)).set 8 (.int .i64 0)).set 9 (.int .i64 0)).set 10 (.int .i64 0))
    have r0 := o9.cell 0 rfl; have r1 := o9.cell 1 rfl; have r2 := o9.cell 2 rfl; have r3 := o9.cell 3 rfl; have r4 := o9.cell 4 rfl; have r5 := o9.cell 5 rfl; have r6 := o9.cell 6 rfl; have r7 := o9.cell 7 rfl; have r8 := o9.cell 8 rfl; have r9 := o9.cell 9 rfl; have r10 := o9.cell 10 rfl; have hbb := hC.B.A.hb
    exact bodyPost_ret (v := .tuple #[.agg #[.string ⟨#[]⟩, .string ⟨#[]⟩, .string ⟨#[]⟩, .string ⟨#[]⟩, .bool false, .bool false, .bool false, .bool false, .int .i64 0, .int .i64 0, .int .i64 0], .int .i64 15]) (by simp [results, Tryz.results10, go_sem, r0, r1, r2, r3, r4, r5, r6, r7, r8, r9, r10]) rfl ⟨rfl, (((((((((((hbb.setCell (p := ⟨w.heap.size + 1, 0, none⟩) (Nat.le_succ _) _).setCell (p := ⟨w.heap.size + 1, 1, none⟩) (Nat.le_succ _) _).setCell (p := ⟨w.heap.size + 1, 2, none⟩) (Nat.le_succ _) _).setCell (p := ⟨w.heap.size + 1, 3, none⟩) (Nat.le_succ _) _).setCell (p := ⟨w.heap.size + 1, 4, none⟩) (Nat.le_succ _) _).setCell (p := ⟨w.heap.size + 1, 5, none⟩) (Nat.le_succ _) _).setCell (p := ⟨w.heap.size + 1, 6, none⟩) (Nat.le_succ _) _).setCell (p := ⟨w.heap.size + 1, 7, none⟩) (Nat.le_succ _) _).setCell (p := ⟨w.heap.size + 1, 8, none⟩) (Nat.le_succ _) _).setCell (p := ⟨w.heap.size + 1, 9, none⟩) (Nat.le_succ _) _).setCell (p := ⟨w.heap.size + 1, 10, none⟩) (Nat.le_succ _) _)⟩
  | false =>
  rw [if_neg (by rintro ⟨rfl, rfl⟩; cases hsc)] at HY
  have hX := HY.out
  simp only [Prod.mk.injEq, ItemL.mk.injEq] at hX
  obtain ⟨⟨k1, k2, k3, k4, k5, k6, k7, k8, k9, k10, k11⟩, k12⟩ := hX
  clear HY
  subst k1 k2 k3 k4 k5 k6 k7 k8 k9 k10 k11 k12
  have z0 := (hC.B.o13).cell 0 rfl; have z1 := (hC.B.o13).cell 1 rfl; have z2 := (hC.B.o13).cell 2 rfl; have z3 := (hC.B.o13).cell 3 rfl; have z4 := (hC.B.o13).cell 4 rfl; have z5 := (hC.B.o13).cell 5 rfl; have z6 := (hC.B.o13).cell 6 rfl; have z7 := (hC.B.o13).cell 7 rfl; have z8 := (hC.B.o13).cell 8 rfl; have z9 := (hC.B.o13).cell 9 rfl; have s5 := (hC.o15).cell 5 rfl; have s6 := (hC.o15).cell 6 rfl; have t5 := (hC.o15).free 5; have t6 := (hC.o15).free 6; skip
  have n13 : ∀ (wx : World) (i j : Nat) (v : Value), (wx.setCell ⟨B15, i, none⟩ v).cell? ⟨B13, j, none⟩ = wx.cell? ⟨B13, j, none⟩ := fun wx i j v => World.cell?_setCell_other wx _ _ v (fun c => by have q := congrArg Addr.block c; have q1 := hC.B.l1; have q2 := hC.B.l2; have q3 := hC.l3; dsimp only at q; omega)
  go_upto_region 38 with fail
  go_cut [16, 17] (fun s16 s17 wx => s16 = .int .i64 en ∧ s17 = .bool eb ∧ StC w wx [.string (str gh), .string (str p), .bool sec, .bool script] [.string ⟨#[]⟩, .string ⟨#[]⟩, .string ⟨#[]⟩, .string ⟨#[]⟩, .bool false, .bool false, .bool false, .bool false, .int .i64 0, .int .i64 0, .int .i64 0] [.string (str q1), .string (str q2)] [.bool hexp, .bool hage, .bool false, .bool hpath, .int .i64 ex, .int .i64 ag, .string (str dm), .string (str pa), .bool se, .bool ht] [.string (str q1), .string (str gh), .string (str pp), .string (str q2), .bool true, .bool se, .bool ht, .bool false, .int .i64 0, .int .i64 0, .int .i64 0] B10 B13 B15)
  case first =>
    go_wp2_with (go_at_call 31; (with_reducible refine (HE _).mono ?_); rintro e wx ⟨rfl, hx⟩)
    go_meet
    exact ⟨rfl, rfl, ((hC.put 5 (.bool se)).put 6 (.bool ht)).below hx⟩
  case rest =>
  clear hC HE z0 z1 z2 z3 z4 z5 z6 z7 z8 z9 s5 s6 t5 t6 n13
  obtain ⟨rfl, rfl, hC⟩ := hcut
  have s0 := (hC.o15).cell 0 rfl; have s1 := (hC.o15).cell 1 rfl; have s2 := (hC.o15).cell 2 rfl; have s3 := (hC.o15).cell 3 rfl; have s4 := (hC.o15).cell 4 rfl; have s5 := (hC.o15).cell 5 rfl; have s6 := (hC.o15).cell 6 rfl; have s7 := (hC.o15).cell 7 rfl; have s8 := (hC.o15).cell 8 rfl; have s9 := (hC.o15).cell 9 rfl; have s10 := (hC.o15).cell 10 rfl; have t7 := (hC.o15).free 7; have t8 := (hC.o15).free 8; have t9 := (hC.o15).free 9; have t10 := (hC.o15).free 10; skip
  go_upto_region 43 with fail
  replace hC := (((hC.put 8 (.int .i64 en)).put 7 (.bool eb)).put 9 (.int .i64 N)).put 10 (.int .i64 N)
  clear s0 s1 s2 s3 s4 s5 s6 s7 s8 s9 s10 t7 t8 t9 t10
  have s0 := (hC.o15).cell 0 rfl; have s1 := (hC.o15).cell 1 rfl; have s2 := (hC.o15).cell 2 rfl; have s3 := (hC.o15).cell 3 rfl; have s4 := (hC.o15).cell 4 rfl; have s5 := (hC.o15).cell 5 rfl; have s6 := (hC.o15).cell 6 rfl; have s7 := (hC.o15).cell 7 rfl; have s8 := (hC.o15).cell 8 rfl; have s9 := (hC.o15).cell 9 rfl; have s10 := (hC.o15).cell 10 rfl; have v0 := (hC.B.A.o8).cell 0 rfl; have v1 := (hC.B.A.o8).cell 1 rfl; have v2 := (hC.B.A.o8).cell 2 rfl; have v3 := (hC.B.A.o8).cell 3 rfl; have v4 := (hC.B.A.o8).cell 4 rfl; have v5 := (hC.B.A.o8).cell 5 rfl; have v6 := (hC.B.A.o8).cell 6 rfl; have v7 := (hC.B.A.o8).cell 7 rfl; have v8 := (hC.B.A.o8).cell 8 rfl; have v9 := (hC.B.A.o8).cell 9 rfl; have v10 := (hC.B.A.o8).cell 10 rfl; have x0 := (hC.B.A.o8).free 0; have x1 := (hC.B.A.o8).free 1; have x2 := (hC.B.A.o8).free 2; have x3 := (hC.B.A.o8).free 3; have x4 := (hC.B.A.o8).free 4; have x5 := (hC.B.A.o8).free 5; have x6 := (hC.B.A.o8).free 6; have x7 := (hC.B.A.o8).free 7; have x8 := (hC.B.A.o8).free 8; have x9 := (hC.B.A.o8).free 9; have x10 := (hC.B.A.o8).free 10; skip
  go_wp2_with fail
  have o9 := (((((((((((hC.B.A.o8.set 0 (.string (str q1))).set 1 (.string (str gh))).set 2 (.string (str pp))).set 3 (.string (str q2))).set 4 (.bool true)).set 5 (.bool se)).set 6 (.bool ht)).set 7 (.bool eb)).set 8 (.int .i64 en)).set 9 (.int .i64 N)).set 10 (.int .i64 N))
  have r0 := o9.cell 0 rfl; have r1 := o9.cell 1 rfl; have r2 := o9.cell 2 rfl; have r3 := o9.cell 3 rfl; have r4 := o9.cell 4 rfl; have r5 := o9.cell 5 rfl; have r6 := o9.cell 6 rfl; have r7 := o9.cell 7 rfl; have r8 := o9.cell 8 rfl; have r9 := o9.cell 9 rfl; have r10 := o9.cell 10 rfl; have hbb := hC.B.A.hb
  exact bodyPost_ret (v := .tuple #[.agg #[.string (str q1), .string (str gh), .string (str pp), .string (str q2), .bool true, .bool se, .bool ht, .bool eb, .int .i64 en, .int .i64 N, .int .i64 N], .int .i64 0]) (by simp [results, Tryz.results10, go_sem, r0, r1, r2, r3, r4, r5, r6, r7, r8, r9, r10]) rfl ⟨rfl, (((((((((((hbb.setCell (p := ⟨w.heap.size + 1, 0, none⟩) (Nat.le_succ _) _).setCell (p := ⟨w.heap.size + 1, 1, none⟩) (Nat.le_succ _) _).setCell (p := ⟨w.heap.size + 1, 2, none⟩) (Nat.le_succ _) _).setCell (p := ⟨w.heap.size + 1, 3, none⟩) (Nat.le_succ _) _).setCell (p := ⟨w.heap.size + 1, 4, none⟩) (Nat.le_succ _) _).setCell (p := ⟨w.heap.size + 1, 5, none⟩) (Nat.le_succ _) _).setCell (p := ⟨w.heap.size + 1, 6, none⟩) (Nat.le_succ _) _).setCell (p := ⟨w.heap.size + 1, 7, none⟩) (Nat.le_succ _) _).setCell (p := ⟨w.heap.size + 1, 8, none⟩) (Nat.le_succ _) _).setCell (p := ⟨w.heap.size + 1, 9, none⟩) (Nat.le_succ _) _).setCell (p := ⟨w.heap.size + 1, 10, none⟩) (Nat.le_succ _) _)⟩
end Go.Proofs.YthefieemngmnjaaGreatDoor
