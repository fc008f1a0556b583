/- Contracts of the reference of layer 14: what is made of a header's pair and attributes: domains that may not be said. -/
import Derived.Test.YthefieemngmnjaaGreatDoorCookieMk
namespace Go.Proofs.YthefieemngmnjaaGreatDoor
open Go.RowKit
set_option linter.unusedVariables false

set_option maxHeartbeats 8000000 in
set_option maxRecDepth 100000 in
theorem refMakeErr (a : Option Addr) (len cap : Nat) (R : List (List UInt8)) (gh p : List UInt8) (sec script : Bool) (head : List UInt8) (now : Int) (w : World) (q1 q2 : List UInt8) (L : List (List UInt8 × List UInt8)) (hexp hage hpath : Bool) (ex ag : Int) (dm pa : List UInt8) (se ht : Bool) (xn xd xp xv : List UInt8) (xh xs xt xq : Bool) (xe xm xu code : Int)
    (hR : IsStrs w a len cap R) (hlen : ¬ 256 < len) (hru : R.all ruleB = true) (hrr : rightU gh p sec = true) (l1 : gh.length ≤ 2000) (l2 : p.length ≤ 2000) (ldm : dm.length ≤ 10000) (lpa : pa.length ≤ 10000) (hag : -9223372036854775808 ≤ ag ∧ ag ≤ 9223372036854775807) (hbad : canonB dm = false ∨ (canonB dm = true ∧ pubN R dm = true ∧ dm ≠ gh) ∨ (canonB dm = true ∧ pubN R dm = false ∧ matchB gh dm = false))
    (HP : ∀ w, Calls Tryz.prog 27 #[.string (str head)] w fun e w' => (∃ a n c, e = .returned (.tuple #[.agg #[.string (str q1), .string (str q2)], .slice a n c, .int .i64 0]) ∧ RowOf encP 2 w' a n c L) ∧ Below w.heap.size w w')
    (HA : ∀ a n c w, RowOf encP 2 w a n c L → Calls Tryz.prog 28 #[.slice a n c] w fun e w' => e = .returned (.agg #[.bool hexp, .bool hage, .bool true, .bool hpath, .int .i64 ex, .int .i64 ag, .string (str dm), .string (str pa), .bool se, .bool ht]) ∧ Below w.heap.size w w')
    (HX : Hid (makeOf R gh p script (q1, q2) ⟨hexp, hage, true, hpath, ex, ag, dm, pa, se, ht⟩ (clampA now) = (⟨xn, xd, xp, xv, xh, xs, xt, xq, xe, xm, xu⟩, code))) :
    Calls Tryz.prog 10 #[.slice a len cap, .agg #[.string (str gh), .string (str p), .bool sec, .bool script], .string (str head), .int .i64 now] w fun e w' => e = .returned (.tuple #[.agg #[.string (str xn), .string (str xd), .string (str xp), .string (str xv), .bool xh, .bool xs, .bool xt, .bool xq, .int .i64 xe, .int .i64 xm, .int .i64 xu], .int .i64 code]) ∧ Below w.heap.size w w' := by
  obtain ⟨o5, o8, hb⟩ := two_new w #[.string (str gh), .string (str p), .bool sec, .bool script] #[.string ⟨#[]⟩, .string ⟨#[]⟩, .string ⟨#[]⟩, .string ⟨#[]⟩, .bool false, .bool false, .bool false, .bool false, .int .i64 0, .int .i64 0, .int .i64 0] 24 34
  have hA : StA w _ [.string (str gh), .string (str p), .bool sec, .bool script] [.string ⟨#[]⟩, .string ⟨#[]⟩, .string ⟨#[]⟩, .string ⟨#[]⟩, .bool false, .bool false, .bool false, .bool false, .int .i64 0, .int .i64 0, .int .i64 0] := ⟨o5, o8, hb⟩
  have hR0 := hR.below hA.hb
  have HRl := fun v hv => refRightC a len cap R v hv
  have HRu := fun v => refURightC gh p sec script gh.length p.length v rfl (by omega) rfl (by omega)
  have HC := fun v => refCanonC dm dm.length v rfl (by unfold maxLen; omega)
  have HPb := fun v hv => refPublicC a len cap R dm dm.length v hv rfl (by unfold maxLen; omega)
  have HMt := fun v => refMatchC gh dm gh.length dm.length v rfl (by unfold maxLen; omega) rfl (by unfold maxLen; omega)
  have HD := fun v => refDefaultC p p.length v rfl (by unfold maxLen; omega)
  have HE := fun N v => refExpiryC hexp hage true hpath ex ag dm pa se ht N v hag
  simp only [hru] at HRl
  simp only [hrr] at HRu
  have hlen' : ¬ (256 : Int) < (len : Int) := by omega
  have hk := str_toList
  clear o5 o8 hb hlen l1 l2 ldm lpa hag hru hrr
  go_enter Tryz.func10, Tryz.ntmps10
  go_upto_region 5 with (first
    | (go_at_call 25; (with_reducible refine (HRl _ hR0).mono ?_); rintro e w2 ⟨rfl, hx⟩; replace hA := hA.below hx; clear hx; have u0 := (hA.o5).cell 0 rfl; have u1 := (hA.o5).cell 1 rfl; have u2 := (hA.o5).cell 2 rfl; have u3 := (hA.o5).cell 3 rfl; skip)
    | (go_at_call 26; (with_reducible refine (HRu _).mono ?_); rintro e w3 ⟨rfl, hx⟩; replace hA := hA.below hx; clear hx u0 u1 u2 u3))
  go_cut [10, 11, 12] (fun s10 s11 s12 wx => ∃ B la ln lc, s10 = .pointer (some ⟨B, 0, none⟩) ∧ s11 = .slice la ln lc ∧ s12 = .int .i64 0 ∧ RowOf encP 2 wx la ln lc L ∧ StA w wx [.string (str gh), .string (str p), .bool sec, .bool script] [.string ⟨#[]⟩, .string ⟨#[]⟩, .string ⟨#[]⟩, .string ⟨#[]⟩, .bool false, .bool false, .bool false, .bool false, .int .i64 0, .int .i64 0, .int .i64 0] ∧ ObjAt wx B [.string (str q1), .string (str q2)] ∧ w.heap.size + 1 < B)
  case first =>
    go_wp2_with (go_at_call 27; (with_reducible refine (HP _).mono ?_); rintro e w4 ⟨⟨la, ln, lc, rfl, hL⟩, hx⟩; replace hA := hA.below hx; clear hx)
    go_meet
    have hx := below_alloc w4 (.cells #[.string (str q1), .string (str q2)] 60)
    exact ⟨w4.heap.size, la, ln, lc, rfl, rfl, rfl, hL.below hx, hA.below hx, ObjAt.new w4 #[.string (str q1), .string (str q2)] 60, hA.o8.lt⟩
  case rest =>
  clear hA hR0 HRl HRu HP
  obtain ⟨B10, la, ln, lc, rfl, rfl, rfl, hL, hA, o10, l1⟩ := hcut
  obtain ⟨n1, hn1⟩ : ∃ n, (if now < 0 then 0 else now) = n := ⟨_, rfl⟩
  have hcl := clamp_two now
  rw [hn1] at hcl
  go_upto_if 42 with fail
  go_cut [3] (fun s3 wx => s3 = .int .i64 n1 ∧ wx = wc)
  case first =>
    clear hcl
    by_cases c : now < 0
    · rw [if_pos c] at hn1
      go_wp2_with fail
      go_meet
      exact ⟨by first | rfl | rw [hn1], rfl⟩
    · rw [if_neg c] at hn1
      go_wp2_with fail
      go_meet
      exact ⟨by first | rfl | rw [hn1], rfl⟩
  case rest =>
  obtain ⟨rfl, rfl⟩ := hcut
  go_upto_if 44 with fail
  go_cut [3] (fun s3 wx => s3 = .int .i64 (clampA now) ∧ wx = wc)
  case first =>
    by_cases c : 1099511627776 < n1
    · rw [if_pos c] at hcl
      go_wp2_with fail
      go_meet
      exact ⟨by first | rfl | rw [hcl], rfl⟩
    · rw [if_neg c] at hcl
      go_wp2_with fail
      go_meet
      exact ⟨by first | rfl | rw [hcl], rfl⟩
  case rest =>
  obtain ⟨rfl, rfl⟩ := hcut
  clear hcl hn1 n1
  generalize clampA now = N at *
  have HE := HE N
  obtain ⟨en, eb, hen⟩ : ∃ en eb, expiryA ⟨hexp, hage, true, hpath, ex, ag, dm, pa, se, ht⟩ N = (en, eb) := ⟨_, _, rfl⟩
  simp only [hen] at HE
  go_upto_region 12 with fail
  go_cut [13] (fun s13 wx => ∃ B13, s13 = .pointer (some ⟨B13, 0, none⟩) ∧ StB w wx [.string (str gh), .string (str p), .bool sec, .bool script] [.string ⟨#[]⟩, .string ⟨#[]⟩, .string ⟨#[]⟩, .string ⟨#[]⟩, .bool false, .bool false, .bool false, .bool false, .int .i64 0, .int .i64 0, .int .i64 0] [.string (str q1), .string (str q2)] [.bool hexp, .bool hage, .bool true, .bool hpath, .int .i64 ex, .int .i64 ag, .string (str dm), .string (str pa), .bool se, .bool ht] B10 B13)
  case first =>
    go_wp2_with (go_at_call 28; (with_reducible refine (HA _ _ _ _ hL).mono ?_); rintro e w5 ⟨rfl, hx⟩; replace hA := hA.below hx; replace o10 := o10.below hx o10.lt; clear hx)
    go_meet
    have hx := below_alloc w5 (.cells #[.bool hexp, .bool hage, .bool true, .bool hpath, .int .i64 ex, .int .i64 ag, .string (str dm), .string (str pa), .bool se, .bool ht] 64)
    exact ⟨w5.heap.size, rfl, hA.below hx, o10.below hx o10.lt, ObjAt.new w5 #[.bool hexp, .bool hage, .bool true, .bool hpath, .int .i64 ex, .int .i64 ag, .string (str dm), .string (str pa), .bool se, .bool ht] 64, l1, o10.lt⟩
  case rest =>
  clear hA o10 l1 hL HA
  obtain ⟨B13, rfl, hB⟩ := hcut
  have HPb := fun v (hv : Below w.heap.size w v) => HPb v (hR.below hv)
  have z2 := (hB.o13).cell 2 rfl; have z6 := (hB.o13).cell 6 rfl; have u0 := (hB.A.o5).cell 0 rfl; have v0 := (hB.A.o8).cell 0 rfl; have v1 := (hB.A.o8).cell 1 rfl; have v2 := (hB.A.o8).cell 2 rfl; have v3 := (hB.A.o8).cell 3 rfl; have v4 := (hB.A.o8).cell 4 rfl; have v5 := (hB.A.o8).cell 5 rfl; have v6 := (hB.A.o8).cell 6 rfl; have v7 := (hB.A.o8).cell 7 rfl; have v8 := (hB.A.o8).cell 8 rfl; have v9 := (hB.A.o8).cell 9 rfl; have v10 := (hB.A.o8).cell 10 rfl; have x0 := (hB.A.o8).free 0; have x1 := (hB.A.o8).free 1; have x2 := (hB.A.o8).free 2; have x3 := (hB.A.o8).free 3; have x4 := (hB.A.o8).free 4; have x5 := (hB.A.o8).free 5; have x6 := (hB.A.o8).free 6; have x7 := (hB.A.o8).free 7; have x8 := (hB.A.o8).free 8; have x9 := (hB.A.o8).free 9; have x10 := (hB.A.o8).free 10; skip
  rcases hbad with hcb | ⟨hcb, hpb, hne⟩ | ⟨hcb, hpb, hmb⟩
  · have hX : (ItemL.none, (13 : Int)) = (⟨xn, xd, xp, xv, xh, xs, xt, xq, xe, xm, xu⟩, code) := by rw [← HX.out]; unfold makeOf; simp [hcb]
    unfold ItemL.none at hX
    cases hX
    simp only [hcb] at HC
    clear HX HE HD hcb
    go_wp2_with (first
      | (go_at_call 29; (with_reducible refine (HC _).mono ?_); rintro e w6 ⟨rfl, hx⟩; replace hB := hB.below hx; clear hx z2 z6 u0 v0 x0 v1 x1 v2 x2 v3 x3 v4 x4 v5 x5 v6 x6 v7 x7 v8 x8 v9 x9 v10 x10; have z2 := (hB.o13).cell 2 rfl; have z6 := (hB.o13).cell 6 rfl; have u0 := (hB.A.o5).cell 0 rfl; have v0 := (hB.A.o8).cell 0 rfl; have v1 := (hB.A.o8).cell 1 rfl; have v2 := (hB.A.o8).cell 2 rfl; have v3 := (hB.A.o8).cell 3 rfl; have v4 := (hB.A.o8).cell 4 rfl; have v5 := (hB.A.o8).cell 5 rfl; have v6 := (hB.A.o8).cell 6 rfl; have v7 := (hB.A.o8).cell 7 rfl; have v8 := (hB.A.o8).cell 8 rfl; have v9 := (hB.A.o8).cell 9 rfl; have v10 := (hB.A.o8).cell 10 rfl; have x0 := (hB.A.o8).free 0; have x1 := (hB.A.o8).free 1; have x2 := (hB.A.o8).free 2; have x3 := (hB.A.o8).free 3; have x4 := (hB.A.o8).free 4; have x5 := (hB.A.o8).free 5; have x6 := (hB.A.o8).free 6; have x7 := (hB.A.o8).free 7; have x8 := (hB.A.o8).free 8; have x9 := (hB.A.o8).free 9; have x10 := (hB.A.o8).free 10; skip)
      | (go_at_call 17; (with_reducible refine (HPb _ hB.A.hb).mono ?_); rintro e w7 ⟨rfl, hx⟩; replace hB := hB.below hx; clear hx z2 z6 u0 v0 x0 v1 x1 v2 x2 v3 x3 v4 x4 v5 x5 v6 x6 v7 x7 v8 x8 v9 x9 v10 x10; have z2 := (hB.o13).cell 2 rfl; have z6 := (hB.o13).cell 6 rfl; have u0 := (hB.A.o5).cell 0 rfl; have v0 := (hB.A.o8).cell 0 rfl; have v1 := (hB.A.o8).cell 1 rfl; have v2 := (hB.A.o8).cell 2 rfl; have v3 := (hB.A.o8).cell 3 rfl; have v4 := (hB.A.o8).cell 4 rfl; have v5 := (hB.A.o8).cell 5 rfl; have v6 := (hB.A.o8).cell 6 rfl; have v7 := (hB.A.o8).cell 7 rfl; have v8 := (hB.A.o8).cell 8 rfl; have v9 := (hB.A.o8).cell 9 rfl; have v10 := (hB.A.o8).cell 10 rfl; have x0 := (hB.A.o8).free 0; have x1 := (hB.A.o8).free 1; have x2 := (hB.A.o8).free 2; have x3 := (hB.A.o8).free 3; have x4 := (hB.A.o8).free 4; have x5 := (hB.A.o8).free 5; have x6 := (hB.A.o8).free 6; have x7 := (hB.A.o8).free 7; have x8 := (hB.A.o8).free 8; have x9 := (hB.A.o8).free 9; have x10 := (hB.A.o8).free 10; skip)
      | (go_at_call 13; (with_reducible refine (HMt _).mono ?_); rintro e w8 ⟨rfl, hx⟩; replace hB := hB.below hx; clear hx z2 z6 u0 v0 x0 v1 x1 v2 x2 v3 x3 v4 x4 v5 x5 v6 x6 v7 x7 v8 x8 v9 x9 v10 x10; have z2 := (hB.o13).cell 2 rfl; have z6 := (hB.o13).cell 6 rfl; have u0 := (hB.A.o5).cell 0 rfl; have v0 := (hB.A.o8).cell 0 rfl; have v1 := (hB.A.o8).cell 1 rfl; have v2 := (hB.A.o8).cell 2 rfl; have v3 := (hB.A.o8).cell 3 rfl; have v4 := (hB.A.o8).cell 4 rfl; have v5 := (hB.A.o8).cell 5 rfl; have v6 := (hB.A.o8).cell 6 rfl; have v7 := (hB.A.o8).cell 7 rfl; have v8 := (hB.A.o8).cell 8 rfl; have v9 := (hB.A.o8).cell 9 rfl; have v10 := (hB.A.o8).cell 10 rfl; have x0 := (hB.A.o8).free 0; have x1 := (hB.A.o8).free 1; have x2 := (hB.A.o8).free 2; have x3 := (hB.A.o8).free 3; have x4 := (hB.A.o8).free 4; have x5 := (hB.A.o8).free 5; have x6 := (hB.A.o8).free 6; have x7 := (hB.A.o8).free 7; have x8 := (hB.A.o8).free 8; have x9 := (hB.A.o8).free 9; have x10 := (hB.A.o8).free 10; skip))
    have o9 := (((((((((((hB.A.o8.set 0 (.string ⟨#[]⟩)).set 1 (.string ⟨#[]⟩)).set 2 (.string ⟨#[]⟩)).set 3 (.string ⟨#[]⟩)).set 4 (.bool false)).set 5 (.bool false)).set 6 (.bool false)).set 7 (.bool false)).set 8 (.int .i64 0)).set 9 (.int .i64 0)).set 10 (.int .i64 0))
    have r0 := o9.cell 0 rfl; have r1 := o9.cell 1 rfl; have r2 := o9.cell 2 rfl; have r3 := o9.cell 3 rfl; have r4 := o9.cell 4 rfl; have r5 := o9.cell 5 rfl; have r6 := o9.cell 6 rfl; have r7 := o9.cell 7 rfl; have r8 := o9.cell 8 rfl; have r9 := o9.cell 9 rfl; have r10 := o9.cell 10 rfl; have hbb := hB.A.hb
    exact bodyPost_ret (v := .tuple #[.agg #[.string ⟨#[]⟩, .string ⟨#[]⟩, .string ⟨#[]⟩, .string ⟨#[]⟩, .bool false, .bool false, .bool false, .bool false, .int .i64 0, .int .i64 0, .int .i64 0], .int .i64 13]) (by simp [results, Tryz.results10, go_sem, r0, r1, r2, r3, r4, r5, r6, r7, r8, r9, r10]) rfl ⟨rfl, (((((((((((hbb.setCell (p := ⟨w.heap.size + 1, 0, none⟩) (Nat.le_succ _) _).setCell (p := ⟨w.heap.size + 1, 1, none⟩) (Nat.le_succ _) _).setCell (p := ⟨w.heap.size + 1, 2, none⟩) (Nat.le_succ _) _).setCell (p := ⟨w.heap.size + 1, 3, none⟩) (Nat.le_succ _) _).setCell (p := ⟨w.heap.size + 1, 4, none⟩) (Nat.le_succ _) _).setCell (p := ⟨w.heap.size + 1, 5, none⟩) (Nat.le_succ _) _).setCell (p := ⟨w.heap.size + 1, 6, none⟩) (Nat.le_succ _) _).setCell (p := ⟨w.heap.size + 1, 7, none⟩) (Nat.le_succ _) _).setCell (p := ⟨w.heap.size + 1, 8, none⟩) (Nat.le_succ _) _).setCell (p := ⟨w.heap.size + 1, 9, none⟩) (Nat.le_succ _) _).setCell (p := ⟨w.heap.size + 1, 10, none⟩) (Nat.le_succ _) _)⟩
  · have hX : (ItemL.none, (14 : Int)) = (⟨xn, xd, xp, xv, xh, xs, xt, xq, xe, xm, xu⟩, code) := by rw [← HX.out]; unfold makeOf; simp [hcb, hpb, hne]
    unfold ItemL.none at hX
    cases hX
    simp only [hcb] at HC
    simp only [hpb] at HPb
    have hn1 : (dm == gh) = false := beq_eq_false_iff_ne.2 hne
    have hn2 : (dm != gh) = true := by rw [bne, hn1]; rfl
    clear HX HE HD hcb hpb hne
    go_wp2_with (first
      | (go_at_call 29; (with_reducible refine (HC _).mono ?_); rintro e w6 ⟨rfl, hx⟩; replace hB := hB.below hx; clear hx z2 z6 u0 v0 x0 v1 x1 v2 x2 v3 x3 v4 x4 v5 x5 v6 x6 v7 x7 v8 x8 v9 x9 v10 x10; have z2 := (hB.o13).cell 2 rfl; have z6 := (hB.o13).cell 6 rfl; have u0 := (hB.A.o5).cell 0 rfl; have v0 := (hB.A.o8).cell 0 rfl; have v1 := (hB.A.o8).cell 1 rfl; have v2 := (hB.A.o8).cell 2 rfl; have v3 := (hB.A.o8).cell 3 rfl; have v4 := (hB.A.o8).cell 4 rfl; have v5 := (hB.A.o8).cell 5 rfl; have v6 := (hB.A.o8).cell 6 rfl; have v7 := (hB.A.o8).cell 7 rfl; have v8 := (hB.A.o8).cell 8 rfl; have v9 := (hB.A.o8).cell 9 rfl; have v10 := (hB.A.o8).cell 10 rfl; have x0 := (hB.A.o8).free 0; have x1 := (hB.A.o8).free 1; have x2 := (hB.A.o8).free 2; have x3 := (hB.A.o8).free 3; have x4 := (hB.A.o8).free 4; have x5 := (hB.A.o8).free 5; have x6 := (hB.A.o8).free 6; have x7 := (hB.A.o8).free 7; have x8 := (hB.A.o8).free 8; have x9 := (hB.A.o8).free 9; have x10 := (hB.A.o8).free 10; skip)
      | (go_at_call 17; (with_reducible refine (HPb _ hB.A.hb).mono ?_); rintro e w7 ⟨rfl, hx⟩; replace hB := hB.below hx; clear hx z2 z6 u0 v0 x0 v1 x1 v2 x2 v3 x3 v4 x4 v5 x5 v6 x6 v7 x7 v8 x8 v9 x9 v10 x10; have z2 := (hB.o13).cell 2 rfl; have z6 := (hB.o13).cell 6 rfl; have u0 := (hB.A.o5).cell 0 rfl; have v0 := (hB.A.o8).cell 0 rfl; have v1 := (hB.A.o8).cell 1 rfl; have v2 := (hB.A.o8).cell 2 rfl; have v3 := (hB.A.o8).cell 3 rfl; have v4 := (hB.A.o8).cell 4 rfl; have v5 := (hB.A.o8).cell 5 rfl; have v6 := (hB.A.o8).cell 6 rfl; have v7 := (hB.A.o8).cell 7 rfl; have v8 := (hB.A.o8).cell 8 rfl; have v9 := (hB.A.o8).cell 9 rfl; have v10 := (hB.A.o8).cell 10 rfl; have x0 := (hB.A.o8).free 0; have x1 := (hB.A.o8).free 1; have x2 := (hB.A.o8).free 2; have x3 := (hB.A.o8).free 3; have x4 := (hB.A.o8).free 4; have x5 := (hB.A.o8).free 5; have x6 := (hB.A.o8).free 6; have x7 := (hB.A.o8).free 7; have x8 := (hB.A.o8).free 8; have x9 := (hB.A.o8).free 9; have x10 := (hB.A.o8).free 10; skip)
      | (go_at_call 13; (with_reducible refine (HMt _).mono ?_); rintro e w8 ⟨rfl, hx⟩; replace hB := hB.below hx; clear hx z2 z6 u0 v0 x0 v1 x1 v2 x2 v3 x3 v4 x4 v5 x5 v6 x6 v7 x7 v8 x8 v9 x9 v10 x10; have z2 := (hB.o13).cell 2 rfl; have z6 := (hB.o13).cell 6 rfl; have u0 := (hB.A.o5).cell 0 rfl; have v0 := (hB.A.o8).cell 0 rfl; have v1 := (hB.A.o8).cell 1 rfl; have v2 := (hB.A.o8).cell 2 rfl; have v3 := (hB.A.o8).cell 3 rfl; have v4 := (hB.A.o8).cell 4 rfl; have v5 := (hB.A.o8).cell 5 rfl; have v6 := (hB.A.o8).cell 6 rfl; have v7 := (hB.A.o8).cell 7 rfl; have v8 := (hB.A.o8).cell 8 rfl; have v9 := (hB.A.o8).cell 9 rfl; have v10 := (hB.A.o8).cell 10 rfl; have x0 := (hB.A.o8).free 0; have x1 := (hB.A.o8).free 1; have x2 := (hB.A.o8).free 2; have x3 := (hB.A.o8).free 3; have x4 := (hB.A.o8).free 4; have x5 := (hB.A.o8).free 5; have x6 := (hB.A.o8).free 6; have x7 := (hB.A.o8).free 7; have x8 := (hB.A.o8).free 8; have x9 := (hB.A.o8).free 9; have x10 := (hB.A.o8).free 10; skip))
    have o9 := (((((((((((hB.A.o8.set 0 (.string ⟨#[]⟩)).set 1 (.string ⟨#[]⟩)).set 2 (.string ⟨#[]⟩)).set 3 (.string ⟨#[]⟩)).set 4 (.bool false)).set 5 (.bool false)).set 6 (.bool false)).set 7 (.bool false)).set 8 (.int .i64 0)).set 9 (.int .i64 0)).set 10 (.int .i64 0))
    have r0 := o9.cell 0 rfl; have r1 := o9.cell 1 rfl; have r2 := o9.cell 2 rfl; have r3 := o9.cell 3 rfl; have r4 := o9.cell 4 rfl; have r5 := o9.cell 5 rfl; have r6 := o9.cell 6 rfl; have r7 := o9.cell 7 rfl; have r8 := o9.cell 8 rfl; have r9 := o9.cell 9 rfl; have r10 := o9.cell 10 rfl; have hbb := hB.A.hb
    exact bodyPost_ret (v := .tuple #[.agg #[.string ⟨#[]⟩, .string ⟨#[]⟩, .string ⟨#[]⟩, .string ⟨#[]⟩, .bool false, .bool false, .bool false, .bool false, .int .i64 0, .int .i64 0, .int .i64 0], .int .i64 14]) (by simp [results, Tryz.results10, go_sem, r0, r1, r2, r3, r4, r5, r6, r7, r8, r9, r10]) rfl ⟨rfl, (((((((((((hbb.setCell (p := ⟨w.heap.size + 1, 0, none⟩) (Nat.le_succ _) _).setCell (p := ⟨w.heap.size + 1, 1, none⟩) (Nat.le_succ _) _).setCell (p := ⟨w.heap.size + 1, 2, none⟩) (Nat.le_succ _) _).setCell (p := ⟨w.heap.size + 1, 3, none⟩) (Nat.le_succ _) _).setCell (p := ⟨w.heap.size + 1, 4, none⟩) (Nat.le_succ _) _).setCell (p := ⟨w.heap.size + 1, 5, none⟩) (Nat.le_succ _) _).setCell (p := ⟨w.heap.size + 1, 6, none⟩) (Nat.le_succ _) _).setCell (p := ⟨w.heap.size + 1, 7, none⟩) (Nat.le_succ _) _).setCell (p := ⟨w.heap.size + 1, 8, none⟩) (Nat.le_succ _) _).setCell (p := ⟨w.heap.size + 1, 9, none⟩) (Nat.le_succ _) _).setCell (p := ⟨w.heap.size + 1, 10, none⟩) (Nat.le_succ _) _)⟩
  · have hX : (ItemL.none, (13 : Int)) = (⟨xn, xd, xp, xv, xh, xs, xt, xq, xe, xm, xu⟩, code) := by rw [← HX.out]; unfold makeOf; simp [hcb, hpb, hmb]
    unfold ItemL.none at hX
    cases hX
    simp only [hcb] at HC
    simp only [hpb] at HPb
    simp only [hmb] at HMt
    clear HX HE HD hcb hpb hmb
    go_wp2_with (first
      | (go_at_call 29; (with_reducible refine (HC _).mono ?_); rintro e w6 ⟨rfl, hx⟩; replace hB := hB.below hx; clear hx z2 z6 u0 v0 x0 v1 x1 v2 x2 v3 x3 v4 x4 v5 x5 v6 x6 v7 x7 v8 x8 v9 x9 v10 x10; have z2 := (hB.o13).cell 2 rfl; have z6 := (hB.o13).cell 6 rfl; have u0 := (hB.A.o5).cell 0 rfl; have v0 := (hB.A.o8).cell 0 rfl; have v1 := (hB.A.o8).cell 1 rfl; have v2 := (hB.A.o8).cell 2 rfl; have v3 := (hB.A.o8).cell 3 rfl; have v4 := (hB.A.o8).cell 4 rfl; have v5 := (hB.A.o8).cell 5 rfl; have v6 := (hB.A.o8).cell 6 rfl; have v7 := (hB.A.o8).cell 7 rfl; have v8 := (hB.A.o8).cell 8 rfl; have v9 := (hB.A.o8).cell 9 rfl; have v10 := (hB.A.o8).cell 10 rfl; have x0 := (hB.A.o8).free 0; have x1 := (hB.A.o8).free 1; have x2 := (hB.A.o8).free 2; have x3 := (hB.A.o8).free 3; have x4 := (hB.A.o8).free 4; have x5 := (hB.A.o8).free 5; have x6 := (hB.A.o8).free 6; have x7 := (hB.A.o8).free 7; have x8 := (hB.A.o8).free 8; have x9 := (hB.A.o8).free 9; have x10 := (hB.A.o8).free 10; skip)
      | (go_at_call 17; (with_reducible refine (HPb _ hB.A.hb).mono ?_); rintro e w7 ⟨rfl, hx⟩; replace hB := hB.below hx; clear hx z2 z6 u0 v0 x0 v1 x1 v2 x2 v3 x3 v4 x4 v5 x5 v6 x6 v7 x7 v8 x8 v9 x9 v10 x10; have z2 := (hB.o13).cell 2 rfl; have z6 := (hB.o13).cell 6 rfl; have u0 := (hB.A.o5).cell 0 rfl; have v0 := (hB.A.o8).cell 0 rfl; have v1 := (hB.A.o8).cell 1 rfl; have v2 := (hB.A.o8).cell 2 rfl; have v3 := (hB.A.o8).cell 3 rfl; have v4 := (hB.A.o8).cell 4 rfl; have v5 := (hB.A.o8).cell 5 rfl; have v6 := (hB.A.o8).cell 6 rfl; have v7 := (hB.A.o8).cell 7 rfl; have v8 := (hB.A.o8).cell 8 rfl; have v9 := (hB.A.o8).cell 9 rfl; have v10 := (hB.A.o8).cell 10 rfl; have x0 := (hB.A.o8).free 0; have x1 := (hB.A.o8).free 1; have x2 := (hB.A.o8).free 2; have x3 := (hB.A.o8).free 3; have x4 := (hB.A.o8).free 4; have x5 := (hB.A.o8).free 5; have x6 := (hB.A.o8).free 6; have x7 := (hB.A.o8).free 7; have x8 := (hB.A.o8).free 8; have x9 := (hB.A.o8).free 9; have x10 := (hB.A.o8).free 10; skip)
      | (go_at_call 13; (with_reducible refine (HMt _).mono ?_); rintro e w8 ⟨rfl, hx⟩; replace hB := hB.below hx; clear hx z2 z6 u0 v0 x0 v1 x1 v2 x2 v3 x3 v4 x4 v5 x5 v6 x6 v7 x7 v8 x8 v9 x9 v10 x10; have z2 := (hB.o13).cell 2 rfl; have z6 := (hB.o13).cell 6 rfl; have u0 := (hB.A.o5).cell 0 rfl; have v0 := (hB.A.o8).cell 0 rfl; have v1 := (hB.A.o8).cell 1 rfl; have v2 := (hB.A.o8).cell 2 rfl; have v3 := (hB.A.o8).cell 3 rfl; have v4 := (hB.A.o8).cell 4 rfl; have v5 := (hB.A.o8).cell 5 rfl; have v6 := (hB.A.o8).cell 6 rfl; have v7 := (hB.A.o8).cell 7 rfl; have v8 := (hB.A.o8).cell 8 rfl; have v9 := (hB.A.o8).cell 9 rfl; have v10 := (hB.A.o8).cell 10 rfl; have x0 := (hB.A.o8).free 0; have x1 := (hB.A.o8).free 1; have x2 := (hB.A.o8).free 2; have x3 := (hB.A.o8).free 3; have x4 := (hB.A.o8).free 4; have x5 := (hB.A.o8).free 5; have x6 := (hB.A.o8).free 6; have x7 := (hB.A.o8).free 7; have x8 := (hB.A.o8).free 8; have x9 := (hB.A.o8).free 9; have x10 := (hB.A.o8).free 10; skip))
    have o9 := (((((((((((hB.A.o8.set 0 (.string ⟨#[]⟩)).set 1 (.string ⟨#[]⟩)).set 2 (.string ⟨#[]⟩)).set 3 (.string ⟨#[]⟩)).set 4 (.bool false)).set 5 (.bool false)).set 6 (.bool false)).set 7 (.bool false)).set 8 (.int .i64 0)).set 9 (.int .i64 0)).set 10 (.int .i64 0))
    have r0 := o9.cell 0 rfl; have r1 := o9.cell 1 rfl; have r2 := o9.cell 2 rfl; have r3 := o9.cell 3 rfl; have r4 := o9.cell 4 rfl; have r5 := o9.cell 5 rfl; have r6 := o9.cell 6 rfl; have r7 := o9.cell 7 rfl; have r8 := o9.cell 8 rfl; have r9 := o9.cell 9 rfl; have r10 := o9.cell 10 rfl; have hbb := hB.A.hb
    exact bodyPost_ret (v := .tuple #[.agg #[.string ⟨#[]⟩, .string ⟨#[]⟩, .string ⟨#[]⟩, .string ⟨#[]⟩, .bool false, .bool false, .bool false, .bool false, .int .i64 0, .int .i64 0, .int .i64 0], .int .i64 13]) (by simp [results, Tryz.results10, go_sem, r0, r1, r2, r3, r4, r5, r6, r7, r8, r9, r10]) rfl ⟨rfl, (((((((((((hbb.setCell (p := ⟨w.heap.size + 1, 0, none⟩) (Nat.le_succ _) _).setCell (p := ⟨w.heap.size + 1, 1, none⟩) (Nat.le_succ _) _).setCell (p := ⟨w.heap.size + 1, 2, none⟩) (Nat.le_succ _) _).setCell (p := ⟨w.heap.size + 1, 3, none⟩) (Nat.le_succ _) _).setCell (p := ⟨w.heap.size + 1, 4, none⟩) (Nat.le_succ _) _).setCell (p := ⟨w.heap.size + 1, 5, none⟩) (Nat.le_succ _) _).setCell (p := ⟨w.heap.size + 1, 6, none⟩) (Nat.le_succ _) _).setCell (p := ⟨w.heap.size + 1, 7, none⟩) (Nat.le_succ _) _).setCell (p := ⟨w.heap.size + 1, 8, none⟩) (Nat.le_succ _) _).setCell (p := ⟨w.heap.size + 1, 9, none⟩) (Nat.le_succ _) _).setCell (p := ⟨w.heap.size + 1, 10, none⟩) (Nat.le_succ _) _)⟩
end Go.Proofs.YthefieemngmnjaaGreatDoor
