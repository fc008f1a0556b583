/- Contracts of layer 14: Make. -/
import Derived.Test.YthefieemngmnjaaGreatDoorCookieFor
import Derived.Test.YthefieemngmnjaaGreatDoorLibAM
import Derived.Deep.DeepCutAuto
import Derived.Test.YthefieemngmnjaaGreatDoorLibAH
import Derived.Test.YthefieemngmnjaaGreatDoorHeadParse
namespace Go.Proofs.YthefieemngmnjaaGreatDoor
open Go.RowKit
set_option linter.unusedVariables false

/-- What is made behind the domain. -/
def bodyY (dom : List UInt8) (host : Bool) (p : List UInt8) (script : Bool) (q : List UInt8 × List UInt8) (f : FieldsL) (now : Int) : ItemL × Int :=
  if 256 < (if f.hpath = true then f.path else defaultL p).length then (ItemL.none, 3)
  else if f.http = true ∧ script = true then (ItemL.none, 15)
  else (⟨q.1, dom, if f.hpath = true then f.path else defaultL p, q.2, host, f.sec, f.http, (expiryA f now).2, (expiryA f now).1, now, now⟩, 0)

theorem public_is {R : List (List UInt8)} (h : checkN R = 0) (s : List UInt8) : publicR R s = pubN R s := by
  unfold publicR pubN ofR
  rw [if_neg (by rw [h]; decide)]
  cases nameB s with
  | true => rw [if_pos rfl]; rfl
  | false => rw [if_neg (by decide)]; rfl

theorem make_is {R : List (List UInt8)} (hc : checkN R = 0) (h p : List UInt8) (script : Bool) (q : List UInt8 × List UInt8) (f : FieldsL) (now : Int) :
    makeOf R h p script q f now = if (domY R h f.hdom f.dom).2.2 = 0 then bodyY (domY R h f.hdom f.dom).1 (domY R h f.hdom f.dom).2.1 p script q f now else (ItemL.none, (domY R h f.hdom f.dom).2.2) := by
  unfold makeOf domY
  cases hd : f.hdom with
  | false => rfl
  | true =>
    rw [if_neg (by decide)]
    have hq := public_is hc f.dom
    cases hcb : canonB f.dom with
    | false =>
      have hn : nameB f.dom = false := by
        unfold canonB at hcb
        cases hx : nameB f.dom with
        | false => rfl
        | true =>
          rw [hx] at hcb
          unfold nameB at hx
          simp only [Bool.and_eq_true, decide_eq_true_eq] at hx
          rw [decide_eq_true hx.1.1] at hcb
          cases hcb
      have hpb : publicR R f.dom = false := by rw [hq]; unfold pubN; rw [hn]; rfl
      have hmb : matchB h f.dom = false := by unfold matchB; rw [hcb]; simp
      rw [hpb, hmb]
      rfl
    | true =>
      rw [if_neg (by decide), ← hq]
      cases publicR R f.dom with
      | true =>
        by_cases hh : f.dom = h
        · simp only [hh, if_true]
          rfl
        · simp only [hh, if_true, if_false]
          rfl
      | false =>
        cases matchB h f.dom with
        | false => rfl
        | true => rfl

theorem make_all (R : List (List UInt8)) (h p : List UInt8) (sec script : Bool) (head : List UInt8) (now : Int) :
    makeX R h p sec script head now = if checkN R = 0 then (if rightU h p sec = true then (if (parseH head).2.2 = 0 then makeOf R h p script (parseH head).1 (readA (parseH head).2.1) (clampA now) else (ItemL.none, (parseH head).2.2)) else (ItemL.none, 1)) else (ItemL.none, checkN R) := by
  unfold makeX checkN
  by_cases h1 : 256 < R.length
  · rw [if_pos h1, if_pos h1]
    rfl
  · rw [if_neg h1, if_neg h1]
    cases h2 : R.all ruleB with
    | false => rfl
    | true =>
      cases h3 : rightU h p sec with
      | false => rfl
      | true =>
        simp only [if_true, Bool.true_eq_false, or_self, if_false]
        by_cases h4 : (parseH head).2.2 = 0
        · rw [if_neg (by simpa using h4), if_pos h4]
        · rw [if_pos h4, if_neg h4]

theorem min_clamp (now : Int) : min (max now 0) 1099511627776 = clampA now := by
  unfold clampA
  split
  · omega
  · split <;> omega

set_option maxHeartbeats 8000000 in
set_option maxRecDepth 100000 in
theorem makeDo (a : Option Addr) (len cap : Nat) (R : List (List UInt8)) (gh p : List UInt8) (sec script : Bool) (head : List UInt8) (now : Int) (w : World) (q1 q2 : List UInt8) (L : List (List UInt8 × List UInt8)) (hexp hage hdom hpath : Bool) (ex ag : Int) (dm pa : List UInt8) (se ht : Bool) (xn xd xp xv : List UInt8) (xh xs xt xq : Bool) (xe xm xu code : Int)
    (hR : IsStrs w a len cap R) (hS : ∀ x ∈ R, x.length ≤ 1000) (hck : checkN R = 0) (hrr : rightU gh p sec = true) (l1 : gh.length ≤ 2000) (l2 : p.length ≤ 2000) (ldm : dm.length ≤ 10000) (lpa : pa.length ≤ 10000) (hag : -9223372036854775808 ≤ ag ∧ ag ≤ 9223372036854775807) (hT : PTab Tryz.prog w) (hD : DTab w)
    (HP : ∀ w, Calls Tryz.prog 20 #[.string (str head)] w fun e w' => (∃ a n c, e = .returned (.tuple #[.agg #[.string (str q1), .string (str q2)], .slice a n c, .int .i64 0]) ∧ RowOf encP 2 w' a n c L) ∧ Below w.heap.size w w')
    (HA : ∀ a n c w, RowOf encP 2 w a n c L → DTab w → Calls Tryz.prog 21 #[.slice a n c] w fun e w' => e = .returned (.agg #[.bool hexp, .bool hage, .bool hdom, .bool hpath, .int .i64 ex, .int .i64 ag, .string (str dm), .string (str pa), .bool se, .bool ht]) ∧ Below w.heap.size w w')
    (HX : Hid (makeOf R gh p script (q1, q2) ⟨hexp, hage, hdom, hpath, ex, ag, dm, pa, se, ht⟩ (clampA now) = (⟨xn, xd, xp, xv, xh, xs, xt, xq, xe, xm, xu⟩, code))) :
    Calls Tryz.prog 9 #[.slice a len cap, .agg #[.string (str gh), .string (str p), .bool sec, .bool script], .string (str head), .int .i64 now] w fun e w' => e = .returned (.tuple #[.agg #[.string (str xn), .string (str xd), .string (str xp), .string (str xv), .bool xh, .bool xs, .bool xt, .bool xq, .int .i64 xe, .int .i64 xm, .int .i64 xu], .int .i64 code]) ∧ Below w.heap.size w w' := by
  obtain ⟨o5, o8, hb⟩ := two_new w #[.string (str gh), .string (str p), .bool sec, .bool script] #[.string ⟨#[]⟩, .string ⟨#[]⟩, .string ⟨#[]⟩, .string ⟨#[]⟩, .bool false, .bool false, .bool false, .bool false, .int .i64 0, .int .i64 0, .int .i64 0] 24 34
  have hA : StA w _ [.string (str gh), .string (str p), .bool sec, .bool script] [.string ⟨#[]⟩, .string ⟨#[]⟩, .string ⟨#[]⟩, .string ⟨#[]⟩, .bool false, .bool false, .bool false, .bool false, .int .i64 0, .int .i64 0, .int .i64 0] := ⟨o5, o8, hb⟩
  have HCk := fun v (hv : Below w.heap.size w v) => sufCheckC a len cap R v (hR.below hv) hS (hT.below hv)
  have HRu := fun v (hv : Below w.heap.size w v) => uriRightC gh p sec script gh.length p.length v rfl (by omega) rfl (by omega) (hT.below hv)
  have HDm := fun v (hv : Below w.heap.size w v) => domainOfC a len cap R gh hexp hage hdom hpath ex ag dm pa se ht v (hR.below hv) hS (by omega) (by omega) (hT.below hv)
  have HPa := fun v => pathOfC14 p hexp hage hdom hpath ex ag dm pa se ht v (by omega)
  have HE := fun v => attrsExpiryC hexp hage hdom hpath ex ag dm pa se ht (clampA now) v hag
  have HAr := fun a n c v (hv : Below w.heap.size w v) hL => HA a n c v hL (hD.below hv)
  have hmm := min_clamp now
  rw [make_is hck] at HX
  dsimp only at HX
  simp only [hck] at HCk
  simp only [hrr] at HRu
  have hk := str_toList
  generalize clampA now = N at *
  obtain ⟨en, eb, hen⟩ : ∃ en eb, expiryA ⟨hexp, hage, hdom, hpath, ex, ag, dm, pa, se, ht⟩ N = (en, eb) := ⟨_, _, rfl⟩
  obtain ⟨yd, yh, yc, hy⟩ : ∃ yd yh yc, domY R gh hdom dm = (yd, yh, yc) := ⟨_, _, _, rfl⟩
  obtain ⟨pp, hpp⟩ : ∃ q, (if hpath = true then pa else defaultL p) = q := ⟨_, rfl⟩
  rw [hy] at HX
  unfold bodyY at HX
  dsimp only at HX
  rw [hpp, hen] at HX
  simp only [hen] at HE
  simp only [hy] at HDm
  simp only [hpp] at HPa
  obtain ⟨mp, hmp⟩ : ∃ m, pp.length = m := ⟨_, rfl⟩
  have hsp : (str pp).size = mp := by rw [str_size, hmp]
  rw [hmp] at HX
  clear o5 o8 hb hck l1 l2 ldm lpa hag hrr hy hpp hen hmp HA hR hS hT hD
  go_enter Tryz.func9, Tryz.ntmps9
  go_upto_region 6 with (first
    | (go_at_call 18; (with_reducible refine (HCk _ hA.hb).mono ?_); rintro e w2 ⟨rfl, hx⟩; replace hA := hA.below hx; clear hx; have u0 := (hA.o5).cell 0 rfl; have u1 := (hA.o5).cell 1 rfl; have u2 := (hA.o5).cell 2 rfl; have u3 := (hA.o5).cell 3 rfl; skip)
    | (go_at_call 19; (with_reducible refine (HRu _ hA.hb).mono ?_); rintro e w3 ⟨rfl, hx⟩; replace hA := hA.below hx; clear hx u0 u1 u2 u3))
  go_cut [11, 12, 13] (fun s11 s12 s13 wx => ∃ B la ln lc, s11 = .pointer (some ⟨B, 0, none⟩) ∧ s12 = .slice la ln lc ∧ s13 = .int .i64 0 ∧ RowOf encP 2 wx la ln lc L ∧ StA w wx [.string (str gh), .string (str p), .bool sec, .bool script] [.string ⟨#[]⟩, .string ⟨#[]⟩, .string ⟨#[]⟩, .string ⟨#[]⟩, .bool false, .bool false, .bool false, .bool false, .int .i64 0, .int .i64 0, .int .i64 0] ∧ ObjAt wx B [.string (str q1), .string (str q2)] ∧ w.heap.size + 1 < B)
  case first =>
    go_wp2_with (go_at_call 20; (with_reducible refine (HP _).mono ?_); rintro e w4 ⟨⟨la, ln, lc, rfl, hL⟩, hx⟩; replace hA := hA.below hx; clear hx)
    go_meet
    have hx := below_alloc w4 (.cells #[.string (str q1), .string (str q2)] 47)
    exact ⟨w4.heap.size, la, ln, lc, rfl, rfl, rfl, hL.below hx, hA.below hx, ObjAt.new w4 #[.string (str q1), .string (str q2)] 47, hA.o8.lt⟩
  case rest =>
  clear hA HCk HRu HP
  obtain ⟨B10, la, ln, lc, rfl, rfl, rfl, hL, hA, o10, l1⟩ := hcut
  go_upto_region 9 with fail
  go_cut [14] (fun s14 wx => ∃ B13, s14 = .pointer (some ⟨B13, 0, none⟩) ∧ StB w wx [.string (str gh), .string (str p), .bool sec, .bool script] [.string ⟨#[]⟩, .string ⟨#[]⟩, .string ⟨#[]⟩, .string ⟨#[]⟩, .bool false, .bool false, .bool false, .bool false, .int .i64 0, .int .i64 0, .int .i64 0] [.string (str q1), .string (str q2)] [.bool hexp, .bool hage, .bool hdom, .bool hpath, .int .i64 ex, .int .i64 ag, .string (str dm), .string (str pa), .bool se, .bool ht] B10 B13)
  case first =>
    go_wp2_with (go_at_call 21; (with_reducible refine (HAr _ _ _ _ hA.hb hL).mono ?_); rintro e w5 ⟨rfl, hx⟩; replace hA := hA.below hx; replace o10 := o10.below hx o10.lt; clear hx)
    go_meet
    have hx := below_alloc w5 (.cells #[.bool hexp, .bool hage, .bool hdom, .bool hpath, .int .i64 ex, .int .i64 ag, .string (str dm), .string (str pa), .bool se, .bool ht] 52)
    exact ⟨w5.heap.size, rfl, hA.below hx, o10.below hx o10.lt, ObjAt.new w5 #[.bool hexp, .bool hage, .bool hdom, .bool hpath, .int .i64 ex, .int .i64 ag, .string (str dm), .string (str pa), .bool se, .bool ht] 52, l1, o10.lt⟩
  case rest =>
  clear hA o10 l1 hL HAr
  obtain ⟨B13, rfl, hB⟩ := hcut
  go_upto_region 10 with fail
  go_cut [13, 15, 16] (fun s13 s15 s16 wx => s13 = .int .i64 yc ∧ s15 = .string (str yd) ∧ s16 = .bool yh ∧ StB w wx [.string (str gh), .string (str p), .bool sec, .bool script] [.string ⟨#[]⟩, .string ⟨#[]⟩, .string ⟨#[]⟩, .string ⟨#[]⟩, .bool false, .bool false, .bool false, .bool false, .int .i64 0, .int .i64 0, .int .i64 0] [.string (str q1), .string (str q2)] [.bool hexp, .bool hage, .bool hdom, .bool hpath, .int .i64 ex, .int .i64 ag, .string (str dm), .string (str pa), .bool se, .bool ht] B10 B13)
  case first =>
    have z0 := (hB.o13).cell 0 rfl; have z1 := (hB.o13).cell 1 rfl; have z2 := (hB.o13).cell 2 rfl; have z3 := (hB.o13).cell 3 rfl; have z4 := (hB.o13).cell 4 rfl; have z5 := (hB.o13).cell 5 rfl; have z6 := (hB.o13).cell 6 rfl; have z7 := (hB.o13).cell 7 rfl; have z8 := (hB.o13).cell 8 rfl; have z9 := (hB.o13).cell 9 rfl; have u0 := (hB.A.o5).cell 0 rfl; have u1 := (hB.A.o5).cell 1 rfl; have u3 := (hB.A.o5).cell 3 rfl; skip
    go_wp2_with (go_at_call 22; (with_reducible refine (HDm _ hB.A.hb).mono ?_); rintro e w6 ⟨rfl, hx⟩)
    go_meet
    exact ⟨rfl, rfl, rfl, hB.below hx⟩
  case rest =>
  clear hB HDm
  obtain ⟨rfl, rfl, rfl, hB⟩ := hcut
  by_cases hyc : yc = 0
  rotate_left
  · rw [if_neg hyc] at HX
    have hX := HX.out
    unfold ItemL.none at hX
    cases hX
    have hyc2 : (code != 0) = true := by simpa using hyc
    clear HX HE HPa hyc
    have v0 := (hB.A.o8).cell 0 rfl; have v1 := (hB.A.o8).cell 1 rfl; have v2 := (hB.A.o8).cell 2 rfl; have v3 := (hB.A.o8).cell 3 rfl; have v4 := (hB.A.o8).cell 4 rfl; have v5 := (hB.A.o8).cell 5 rfl; have v6 := (hB.A.o8).cell 6 rfl; have v7 := (hB.A.o8).cell 7 rfl; have v8 := (hB.A.o8).cell 8 rfl; have v9 := (hB.A.o8).cell 9 rfl; have v10 := (hB.A.o8).cell 10 rfl; have x0 := (hB.A.o8).free 0; have x1 := (hB.A.o8).free 1; have x2 := (hB.A.o8).free 2; have x3 := (hB.A.o8).free 3; have x4 := (hB.A.o8).free 4; have x5 := (hB.A.o8).free 5; have x6 := (hB.A.o8).free 6; have x7 := (hB.A.o8).free 7; have x8 := (hB.A.o8).free 8; have x9 := (hB.A.o8).free 9; have x10 := (hB.A.o8).free 10; skip
    go_wp2_with fail
    have o9 := (((((((((((hB.A.o8.set 0 (.string ⟨#[]⟩)).set 1 (.string ⟨#[]⟩)).set 2 (.string ⟨#[]⟩)).set 3 (.string ⟨#[]⟩)).set 4 (.bool false)).set 5 (.bool false)).set 6 (.bool false)).set 7 (.bool false)).set 8 (.int .i64 0)).set 9 (.int .i64 0)).set 10 (.int .i64 0))
    have r0 := o9.cell 0 rfl; have r1 := o9.cell 1 rfl; have r2 := o9.cell 2 rfl; have r3 := o9.cell 3 rfl; have r4 := o9.cell 4 rfl; have r5 := o9.cell 5 rfl; have r6 := o9.cell 6 rfl; have r7 := o9.cell 7 rfl; have r8 := o9.cell 8 rfl; have r9 := o9.cell 9 rfl; have r10 := o9.cell 10 rfl; have hbb := hB.A.hb
    exact bodyPost_ret (v := .tuple #[.agg #[.string ⟨#[]⟩, .string ⟨#[]⟩, .string ⟨#[]⟩, .string ⟨#[]⟩, .bool false, .bool false, .bool false, .bool false, .int .i64 0, .int .i64 0, .int .i64 0], .int .i64 code]) (by simp [results, Tryz.results9, go_sem, r0, r1, r2, r3, r4, r5, r6, r7, r8, r9, r10]) rfl ⟨rfl, (((((((((((hbb.setCell (p := ⟨w.heap.size + 1, 0, none⟩) (Nat.le_succ _) _).setCell (p := ⟨w.heap.size + 1, 1, none⟩) (Nat.le_succ _) _).setCell (p := ⟨w.heap.size + 1, 2, none⟩) (Nat.le_succ _) _).setCell (p := ⟨w.heap.size + 1, 3, none⟩) (Nat.le_succ _) _).setCell (p := ⟨w.heap.size + 1, 4, none⟩) (Nat.le_succ _) _).setCell (p := ⟨w.heap.size + 1, 5, none⟩) (Nat.le_succ _) _).setCell (p := ⟨w.heap.size + 1, 6, none⟩) (Nat.le_succ _) _).setCell (p := ⟨w.heap.size + 1, 7, none⟩) (Nat.le_succ _) _).setCell (p := ⟨w.heap.size + 1, 8, none⟩) (Nat.le_succ _) _).setCell (p := ⟨w.heap.size + 1, 9, none⟩) (Nat.le_succ _) _).setCell (p := ⟨w.heap.size + 1, 10, none⟩) (Nat.le_succ _) _)⟩
  subst hyc
  rw [if_pos rfl] at HX
  go_upto_region 13 with fail
  go_cut [17] (fun s17 wx => s17 = .string (str pp) ∧ StB w wx [.string (str gh), .string (str p), .bool sec, .bool script] [.string ⟨#[]⟩, .string ⟨#[]⟩, .string ⟨#[]⟩, .string ⟨#[]⟩, .bool false, .bool false, .bool false, .bool false, .int .i64 0, .int .i64 0, .int .i64 0] [.string (str q1), .string (str q2)] [.bool hexp, .bool hage, .bool hdom, .bool hpath, .int .i64 ex, .int .i64 ag, .string (str dm), .string (str pa), .bool se, .bool ht] B10 B13)
  case first =>
    have z0 := (hB.o13).cell 0 rfl; have z1 := (hB.o13).cell 1 rfl; have z2 := (hB.o13).cell 2 rfl; have z3 := (hB.o13).cell 3 rfl; have z4 := (hB.o13).cell 4 rfl; have z5 := (hB.o13).cell 5 rfl; have z6 := (hB.o13).cell 6 rfl; have z7 := (hB.o13).cell 7 rfl; have z8 := (hB.o13).cell 8 rfl; have z9 := (hB.o13).cell 9 rfl; have u0 := (hB.A.o5).cell 0 rfl; have u1 := (hB.A.o5).cell 1 rfl; have u3 := (hB.A.o5).cell 3 rfl; skip
    go_wp2_with (go_at_call 23; (with_reducible refine (HPa _).mono ?_); rintro e w7 ⟨rfl, hx⟩)
    go_meet
    exact ⟨rfl, hB.below hx⟩
  case rest =>
  clear hB HPa
  obtain ⟨rfl, hB⟩ := hcut
  by_cases hlo : 256 < mp
  · have hlo' : (256 : Int) < (mp : Int) := by omega
    rw [if_pos hlo] at HX
    have hX := HX.out
    unfold ItemL.none at hX
    cases hX
    clear HX HE
    have v0 := (hB.A.o8).cell 0 rfl; have v1 := (hB.A.o8).cell 1 rfl; have v2 := (hB.A.o8).cell 2 rfl; have v3 := (hB.A.o8).cell 3 rfl; have v4 := (hB.A.o8).cell 4 rfl; have v5 := (hB.A.o8).cell 5 rfl; have v6 := (hB.A.o8).cell 6 rfl; have v7 := (hB.A.o8).cell 7 rfl; have v8 := (hB.A.o8).cell 8 rfl; have v9 := (hB.A.o8).cell 9 rfl; have v10 := (hB.A.o8).cell 10 rfl; have x0 := (hB.A.o8).free 0; have x1 := (hB.A.o8).free 1; have x2 := (hB.A.o8).free 2; have x3 := (hB.A.o8).free 3; have x4 := (hB.A.o8).free 4; have x5 := (hB.A.o8).free 5; have x6 := (hB.A.o8).free 6; have x7 := (hB.A.o8).free 7; have x8 := (hB.A.o8).free 8; have x9 := (hB.A.o8).free 9; have x10 := (hB.A.o8).free 10; skip
    go_wp2_with fail
    have o9 := (((((((((((hB.A.o8.set 0 (.string ⟨#[]⟩)).set 1 (.string ⟨#[]⟩)).set 2 (.string ⟨#[]⟩)).set 3 (.string ⟨#[]⟩)).set 4 (.bool false)).set 5 (.bool false)).set 6 (.bool false)).set 7 (.bool false)).set 8 (.int .i64 0)).set 9 (.int .i64 0)).set 10 (.int .i64 0))
    have r0 := o9.cell 0 rfl; have r1 := o9.cell 1 rfl; have r2 := o9.cell 2 rfl; have r3 := o9.cell 3 rfl; have r4 := o9.cell 4 rfl; have r5 := o9.cell 5 rfl; have r6 := o9.cell 6 rfl; have r7 := o9.cell 7 rfl; have r8 := o9.cell 8 rfl; have r9 := o9.cell 9 rfl; have r10 := o9.cell 10 rfl; have hbb := hB.A.hb
    exact bodyPost_ret (v := .tuple #[.agg #[.string ⟨#[]⟩, .string ⟨#[]⟩, .string ⟨#[]⟩, .string ⟨#[]⟩, .bool false, .bool false, .bool false, .bool false, .int .i64 0, .int .i64 0, .int .i64 0], .int .i64 3]) (by simp [results, Tryz.results9, go_sem, r0, r1, r2, r3, r4, r5, r6, r7, r8, r9, r10]) rfl ⟨rfl, (((((((((((hbb.setCell (p := ⟨w.heap.size + 1, 0, none⟩) (Nat.le_succ _) _).setCell (p := ⟨w.heap.size + 1, 1, none⟩) (Nat.le_succ _) _).setCell (p := ⟨w.heap.size + 1, 2, none⟩) (Nat.le_succ _) _).setCell (p := ⟨w.heap.size + 1, 3, none⟩) (Nat.le_succ _) _).setCell (p := ⟨w.heap.size + 1, 4, none⟩) (Nat.le_succ _) _).setCell (p := ⟨w.heap.size + 1, 5, none⟩) (Nat.le_succ _) _).setCell (p := ⟨w.heap.size + 1, 6, none⟩) (Nat.le_succ _) _).setCell (p := ⟨w.heap.size + 1, 7, none⟩) (Nat.le_succ _) _).setCell (p := ⟨w.heap.size + 1, 8, none⟩) (Nat.le_succ _) _).setCell (p := ⟨w.heap.size + 1, 9, none⟩) (Nat.le_succ _) _).setCell (p := ⟨w.heap.size + 1, 10, none⟩) (Nat.le_succ _) _)⟩
  have hlo' : ¬ (256 : Int) < (mp : Int) := by omega
  rw [if_neg hlo] at HX
  go_upto_region 16 with fail
  clear hsp hlo'
  have z9 := hB.o13.cell 9 rfl; have u3 := hB.A.o5.cell 3 rfl
  go_cut [69] (fun s69 wx => s69 = .bool (ht && script) ∧ wx = wc)
  case first =>
    cases ht with
    | false =>
      go_wp2_with fail
      go_meet
      exact ⟨by first | rfl | simp, rfl⟩
    | true =>
      go_wp2_with fail
      go_meet
      exact ⟨by first | rfl | simp, rfl⟩
  case rest =>
  obtain ⟨rfl, rfl⟩ := hcut
  clear z9 u3
  cases hsc : (ht && script) with
  | true =>
    rw [Bool.and_eq_true] at hsc
    rw [if_pos hsc] at HX
    have hX := HX.out
    unfold ItemL.none at hX
    cases hX
    obtain ⟨rfl, rfl⟩ := hsc
    clear HX HE
    have v0 := (hB.A.o8).cell 0 rfl; have v1 := (hB.A.o8).cell 1 rfl; have v2 := (hB.A.o8).cell 2 rfl; have v3 := (hB.A.o8).cell 3 rfl; have v4 := (hB.A.o8).cell 4 rfl; have v5 := (hB.A.o8).cell 5 rfl; have v6 := (hB.A.o8).cell 6 rfl; have v7 := (hB.A.o8).cell 7 rfl; have v8 := (hB.A.o8).cell 8 rfl; have v9 := (hB.A.o8).cell 9 rfl; have v10 := (hB.A.o8).cell 10 rfl; have x0 := (hB.A.o8).free 0; have x1 := (hB.A.o8).free 1; have x2 := (hB.A.o8).free 2; have x3 := (hB.A.o8).free 3; have x4 := (hB.A.o8).free 4; have x5 := (hB.A.o8).free 5; have x6 := (hB.A.o8).free 6; have x7 := (hB.A.o8).free 7; have x8 := (hB.A.o8).free 8; have x9 := (hB.A.o8).free 9; have x10 := (hB.A.o8).free 10; skip
    go_wp2_with fail
    have o9 := (((((((((((hB.A.o8.set 0 (.string ⟨#[]⟩)).set 1 (.string ⟨#[]⟩)).set 2 (.string ⟨#[]⟩)).set 3 (.string ⟨#[]⟩)).set 4 (.bool false)).set 5 (.bool false)).set 6 (.bool false)).set 7 (.bool false)).set 8 (.int .i64 0)).set 9 (.int .i64 0)).set 10 (.int .i64 0))
    have r0 := o9.cell 0 rfl; have r1 := o9.cell 1 rfl; have r2 := o9.cell 2 rfl; have r3 := o9.cell 3 rfl; have r4 := o9.cell 4 rfl; have r5 := o9.cell 5 rfl; have r6 := o9.cell 6 rfl; have r7 := o9.cell 7 rfl; have r8 := o9.cell 8 rfl; have r9 := o9.cell 9 rfl; have r10 := o9.cell 10 rfl; have hbb := hB.A.hb
    exact bodyPost_ret (v := .tuple #[.agg #[.string ⟨#[]⟩, .string ⟨#[]⟩, .string ⟨#[]⟩, .string ⟨#[]⟩, .bool false, .bool false, .bool false, .bool false, .int .i64 0, .int .i64 0, .int .i64 0], .int .i64 15]) (by simp [results, Tryz.results9, go_sem, r0, r1, r2, r3, r4, r5, r6, r7, r8, r9, r10]) rfl ⟨rfl, (((((((((((hbb.setCell (p := ⟨w.heap.size + 1, 0, none⟩) (Nat.le_succ _) _).setCell (p := ⟨w.heap.size + 1, 1, none⟩) (Nat.le_succ _) _).setCell (p := ⟨w.heap.size + 1, 2, none⟩) (Nat.le_succ _) _).setCell (p := ⟨w.heap.size + 1, 3, none⟩) (Nat.le_succ _) _).setCell (p := ⟨w.heap.size + 1, 4, none⟩) (Nat.le_succ _) _).setCell (p := ⟨w.heap.size + 1, 5, none⟩) (Nat.le_succ _) _).setCell (p := ⟨w.heap.size + 1, 6, none⟩) (Nat.le_succ _) _).setCell (p := ⟨w.heap.size + 1, 7, none⟩) (Nat.le_succ _) _).setCell (p := ⟨w.heap.size + 1, 8, none⟩) (Nat.le_succ _) _).setCell (p := ⟨w.heap.size + 1, 9, none⟩) (Nat.le_succ _) _).setCell (p := ⟨w.heap.size + 1, 10, none⟩) (Nat.le_succ _) _)⟩
  | false =>
  rw [if_neg (by rintro ⟨rfl, rfl⟩; cases hsc)] at HX
  have hX := HX.out
  simp only [Prod.mk.injEq, ItemL.mk.injEq] at hX
  obtain ⟨⟨k1, k2, k3, k4, k5, k6, k7, k8, k9, k10, k11⟩, k12⟩ := hX
  clear HX
  subst k1 k2 k3 k4 k5 k6 k7 k8 k9 k10 k11 k12
  go_upto_region 19 with fail
  go_cut [18, 19, 20] (fun s18 s19 s20 wx => s18 = .int .i64 N ∧ s19 = .int .i64 en ∧ s20 = .bool eb ∧ StB w wx [.string (str gh), .string (str p), .bool sec, .bool script] [.string ⟨#[]⟩, .string ⟨#[]⟩, .string ⟨#[]⟩, .string ⟨#[]⟩, .bool false, .bool false, .bool false, .bool false, .int .i64 0, .int .i64 0, .int .i64 0] [.string (str q1), .string (str q2)] [.bool hexp, .bool hage, .bool hdom, .bool hpath, .int .i64 ex, .int .i64 ag, .string (str dm), .string (str pa), .bool se, .bool ht] B10 B13)
  case first =>
    have z0 := (hB.o13).cell 0 rfl; have z1 := (hB.o13).cell 1 rfl; have z2 := (hB.o13).cell 2 rfl; have z3 := (hB.o13).cell 3 rfl; have z4 := (hB.o13).cell 4 rfl; have z5 := (hB.o13).cell 5 rfl; have z6 := (hB.o13).cell 6 rfl; have z7 := (hB.o13).cell 7 rfl; have z8 := (hB.o13).cell 8 rfl; have z9 := (hB.o13).cell 9 rfl; have u0 := (hB.A.o5).cell 0 rfl; have u1 := (hB.A.o5).cell 1 rfl; have u3 := (hB.A.o5).cell 3 rfl; skip
    go_wp2_with (go_at_call 24; (with_reducible refine (HE _).mono ?_); rintro e w8 ⟨rfl, hx⟩)
    go_meet
    exact ⟨by first | rfl | rw [hmm], rfl, rfl, hB.below hx⟩
  case rest =>
  clear hB HE hmm
  obtain ⟨rfl, rfl, rfl, hB⟩ := hcut
  have y0 := (hB.o10).cell 0 rfl; have y1 := (hB.o10).cell 1 rfl; have z8 := (hB.o13).cell 8 rfl; have z9 := (hB.o13).cell 9 rfl; have v0 := (hB.A.o8).cell 0 rfl; have v1 := (hB.A.o8).cell 1 rfl; have v2 := (hB.A.o8).cell 2 rfl; have v3 := (hB.A.o8).cell 3 rfl; have v4 := (hB.A.o8).cell 4 rfl; have v5 := (hB.A.o8).cell 5 rfl; have v6 := (hB.A.o8).cell 6 rfl; have v7 := (hB.A.o8).cell 7 rfl; have v8 := (hB.A.o8).cell 8 rfl; have v9 := (hB.A.o8).cell 9 rfl; have v10 := (hB.A.o8).cell 10 rfl; have x0 := (hB.A.o8).free 0; have x1 := (hB.A.o8).free 1; have x2 := (hB.A.o8).free 2; have x3 := (hB.A.o8).free 3; have x4 := (hB.A.o8).free 4; have x5 := (hB.A.o8).free 5; have x6 := (hB.A.o8).free 6; have x7 := (hB.A.o8).free 7; have x8 := (hB.A.o8).free 8; have x9 := (hB.A.o8).free 9; have x10 := (hB.A.o8).free 10; skip
  go_wp2_with fail
  have o9 := (((((((((((hB.A.o8.set 0 (.string (str q1))).set 1 (.string (str yd))).set 2 (.string (str pp))).set 3 (.string (str q2))).set 4 (.bool yh)).set 5 (.bool se)).set 6 (.bool ht)).set 7 (.bool eb)).set 8 (.int .i64 en)).set 9 (.int .i64 N)).set 10 (.int .i64 N))
  have r0 := o9.cell 0 rfl; have r1 := o9.cell 1 rfl; have r2 := o9.cell 2 rfl; have r3 := o9.cell 3 rfl; have r4 := o9.cell 4 rfl; have r5 := o9.cell 5 rfl; have r6 := o9.cell 6 rfl; have r7 := o9.cell 7 rfl; have r8 := o9.cell 8 rfl; have r9 := o9.cell 9 rfl; have r10 := o9.cell 10 rfl; have hbb := hB.A.hb
  exact bodyPost_ret (v := .tuple #[.agg #[.string (str q1), .string (str yd), .string (str pp), .string (str q2), .bool yh, .bool se, .bool ht, .bool eb, .int .i64 en, .int .i64 N, .int .i64 N], .int .i64 0]) (by simp [results, Tryz.results9, go_sem, r0, r1, r2, r3, r4, r5, r6, r7, r8, r9, r10]) rfl ⟨rfl, (((((((((((hbb.setCell (p := ⟨w.heap.size + 1, 0, none⟩) (Nat.le_succ _) _).setCell (p := ⟨w.heap.size + 1, 1, none⟩) (Nat.le_succ _) _).setCell (p := ⟨w.heap.size + 1, 2, none⟩) (Nat.le_succ _) _).setCell (p := ⟨w.heap.size + 1, 3, none⟩) (Nat.le_succ _) _).setCell (p := ⟨w.heap.size + 1, 4, none⟩) (Nat.le_succ _) _).setCell (p := ⟨w.heap.size + 1, 5, none⟩) (Nat.le_succ _) _).setCell (p := ⟨w.heap.size + 1, 6, none⟩) (Nat.le_succ _) _).setCell (p := ⟨w.heap.size + 1, 7, none⟩) (Nat.le_succ _) _).setCell (p := ⟨w.heap.size + 1, 8, none⟩) (Nat.le_succ _) _).setCell (p := ⟨w.heap.size + 1, 9, none⟩) (Nat.le_succ _) _).setCell (p := ⟨w.heap.size + 1, 10, none⟩) (Nat.le_succ _) _)⟩

set_option maxHeartbeats 8000000 in
set_option maxRecDepth 100000 in
theorem makeC14 (a : Option Addr) (len cap : Nat) (R : List (List UInt8)) (gh p : List UInt8) (sec script : Bool) (head : List UInt8) (now : Int) (w : World) (hR : IsStrs w a len cap R) (hS : ∀ x ∈ R, x.length ≤ 1000) (l1 : gh.length ≤ 2000) (l2 : p.length ≤ 2000) (l3 : head.length ≤ 5000) (hT : PTab Tryz.prog w) (hD : DTab w) :
    Calls Tryz.prog 9 #[.slice a len cap, .agg #[.string (str gh), .string (str p), .bool sec, .bool script], .string (str head), .int .i64 now] w fun e w' => e = .returned (.tuple #[.agg #[.string (str (makeX R gh p sec script head now).1.name), .string (str (makeX R gh p sec script head now).1.dom), .string (str (makeX R gh p sec script head now).1.path), .string (str (makeX R gh p sec script head now).1.val), .bool (makeX R gh p sec script head now).1.host, .bool (makeX R gh p sec script head now).1.sec, .bool (makeX R gh p sec script head now).1.http, .bool (makeX R gh p sec script head now).1.pers, .int .i64 (makeX R gh p sec script head now).1.exp, .int .i64 (makeX R gh p sec script head now).1.made, .int .i64 (makeX R gh p sec script head now).1.used], .int .i64 (makeX R gh p sec script head now).2]) ∧ Below w.heap.size w w' := by
  obtain ⟨o5, o8, hb⟩ := two_new w #[.string (str gh), .string (str p), .bool sec, .bool script] #[.string ⟨#[]⟩, .string ⟨#[]⟩, .string ⟨#[]⟩, .string ⟨#[]⟩, .bool false, .bool false, .bool false, .bool false, .int .i64 0, .int .i64 0, .int .i64 0] 24 34
  have hA : StA w _ [.string (str gh), .string (str p), .bool sec, .bool script] [.string ⟨#[]⟩, .string ⟨#[]⟩, .string ⟨#[]⟩, .string ⟨#[]⟩, .bool false, .bool false, .bool false, .bool false, .int .i64 0, .int .i64 0, .int .i64 0] := ⟨o5, o8, hb⟩
  have HCk := fun v (hv : Below w.heap.size w v) => sufCheckC a len cap R v (hR.below hv) hS (hT.below hv)
  have HRu := fun v (hv : Below w.heap.size w v) => uriRightC gh p sec script gh.length p.length v rfl (by omega) rfl (by omega) (hT.below hv)
  have HP := fun v => headParseC head head.length v rfl (by omega)
  have hk := str_toList
  rw [make_all]
  by_cases hck : checkN R = 0
  rotate_left
  · rw [if_neg hck]
    have hck2 : (checkN R != 0) = true := by simpa using hck
    generalize checkN R = c at *
    clear HRu HP o5 o8 hb hck hS hR hT hD
    unfold ItemL.none
    go_enter Tryz.func9, Tryz.ntmps9
    go_wp2_with (first
      | (go_at_call 18; (with_reducible refine (HCk _ hA.hb).mono ?_); rintro e w2 ⟨rfl, hx⟩; replace hA := hA.below hx; clear hx; have u0 := (hA.o5).cell 0 rfl; have u1 := (hA.o5).cell 1 rfl; have u2 := (hA.o5).cell 2 rfl; have u3 := (hA.o5).cell 3 rfl; have v0 := (hA.o8).cell 0 rfl; have v1 := (hA.o8).cell 1 rfl; have v2 := (hA.o8).cell 2 rfl; have v3 := (hA.o8).cell 3 rfl; have v4 := (hA.o8).cell 4 rfl; have v5 := (hA.o8).cell 5 rfl; have v6 := (hA.o8).cell 6 rfl; have v7 := (hA.o8).cell 7 rfl; have v8 := (hA.o8).cell 8 rfl; have v9 := (hA.o8).cell 9 rfl; have v10 := (hA.o8).cell 10 rfl; have x0 := (hA.o8).free 0; have x1 := (hA.o8).free 1; have x2 := (hA.o8).free 2; have x3 := (hA.o8).free 3; have x4 := (hA.o8).free 4; have x5 := (hA.o8).free 5; have x6 := (hA.o8).free 6; have x7 := (hA.o8).free 7; have x8 := (hA.o8).free 8; have x9 := (hA.o8).free 9; have x10 := (hA.o8).free 10; skip))
    have o9 := (((((((((((hA.o8.set 0 (.string ⟨#[]⟩)).set 1 (.string ⟨#[]⟩)).set 2 (.string ⟨#[]⟩)).set 3 (.string ⟨#[]⟩)).set 4 (.bool false)).set 5 (.bool false)).set 6 (.bool false)).set 7 (.bool false)).set 8 (.int .i64 0)).set 9 (.int .i64 0)).set 10 (.int .i64 0))
    have r0 := o9.cell 0 rfl; have r1 := o9.cell 1 rfl; have r2 := o9.cell 2 rfl; have r3 := o9.cell 3 rfl; have r4 := o9.cell 4 rfl; have r5 := o9.cell 5 rfl; have r6 := o9.cell 6 rfl; have r7 := o9.cell 7 rfl; have r8 := o9.cell 8 rfl; have r9 := o9.cell 9 rfl; have r10 := o9.cell 10 rfl; have hbb := hA.hb
    exact bodyPost_ret (v := .tuple #[.agg #[.string ⟨#[]⟩, .string ⟨#[]⟩, .string ⟨#[]⟩, .string ⟨#[]⟩, .bool false, .bool false, .bool false, .bool false, .int .i64 0, .int .i64 0, .int .i64 0], .int .i64 c]) (by simp [results, Tryz.results9, go_sem, r0, r1, r2, r3, r4, r5, r6, r7, r8, r9, r10]) rfl ⟨rfl, (((((((((((hbb.setCell (p := ⟨w.heap.size + 1, 0, none⟩) (Nat.le_succ _) _).setCell (p := ⟨w.heap.size + 1, 1, none⟩) (Nat.le_succ _) _).setCell (p := ⟨w.heap.size + 1, 2, none⟩) (Nat.le_succ _) _).setCell (p := ⟨w.heap.size + 1, 3, none⟩) (Nat.le_succ _) _).setCell (p := ⟨w.heap.size + 1, 4, none⟩) (Nat.le_succ _) _).setCell (p := ⟨w.heap.size + 1, 5, none⟩) (Nat.le_succ _) _).setCell (p := ⟨w.heap.size + 1, 6, none⟩) (Nat.le_succ _) _).setCell (p := ⟨w.heap.size + 1, 7, none⟩) (Nat.le_succ _) _).setCell (p := ⟨w.heap.size + 1, 8, none⟩) (Nat.le_succ _) _).setCell (p := ⟨w.heap.size + 1, 9, none⟩) (Nat.le_succ _) _).setCell (p := ⟨w.heap.size + 1, 10, none⟩) (Nat.le_succ _) _)⟩
  rw [if_pos hck]
  cases hrr : rightU gh p sec with
  | false =>
    rw [if_neg (by decide)]
    simp only [hck] at HCk
    simp only [hrr] at HRu
    clear HP o5 o8 hb hrr hck hS hR hT hD
    unfold ItemL.none
    go_enter Tryz.func9, Tryz.ntmps9
    go_wp2_with (first
      | (go_at_call 18; (with_reducible refine (HCk _ hA.hb).mono ?_); rintro e w2 ⟨rfl, hx⟩; replace hA := hA.below hx; clear hx; have u0 := (hA.o5).cell 0 rfl; have u1 := (hA.o5).cell 1 rfl; have u2 := (hA.o5).cell 2 rfl; have u3 := (hA.o5).cell 3 rfl; have v0 := (hA.o8).cell 0 rfl; have v1 := (hA.o8).cell 1 rfl; have v2 := (hA.o8).cell 2 rfl; have v3 := (hA.o8).cell 3 rfl; have v4 := (hA.o8).cell 4 rfl; have v5 := (hA.o8).cell 5 rfl; have v6 := (hA.o8).cell 6 rfl; have v7 := (hA.o8).cell 7 rfl; have v8 := (hA.o8).cell 8 rfl; have v9 := (hA.o8).cell 9 rfl; have v10 := (hA.o8).cell 10 rfl; have x0 := (hA.o8).free 0; have x1 := (hA.o8).free 1; have x2 := (hA.o8).free 2; have x3 := (hA.o8).free 3; have x4 := (hA.o8).free 4; have x5 := (hA.o8).free 5; have x6 := (hA.o8).free 6; have x7 := (hA.o8).free 7; have x8 := (hA.o8).free 8; have x9 := (hA.o8).free 9; have x10 := (hA.o8).free 10; skip)
      | (go_at_call 19; (with_reducible refine (HRu _ hA.hb).mono ?_); rintro e w3 ⟨rfl, hx⟩; replace hA := hA.below hx; clear hx u0 u1 u2 u3 v0 x0 v1 x1 v2 x2 v3 x3 v4 x4 v5 x5 v6 x6 v7 x7 v8 x8 v9 x9 v10 x10; have v0 := (hA.o8).cell 0 rfl; have v1 := (hA.o8).cell 1 rfl; have v2 := (hA.o8).cell 2 rfl; have v3 := (hA.o8).cell 3 rfl; have v4 := (hA.o8).cell 4 rfl; have v5 := (hA.o8).cell 5 rfl; have v6 := (hA.o8).cell 6 rfl; have v7 := (hA.o8).cell 7 rfl; have v8 := (hA.o8).cell 8 rfl; have v9 := (hA.o8).cell 9 rfl; have v10 := (hA.o8).cell 10 rfl; have x0 := (hA.o8).free 0; have x1 := (hA.o8).free 1; have x2 := (hA.o8).free 2; have x3 := (hA.o8).free 3; have x4 := (hA.o8).free 4; have x5 := (hA.o8).free 5; have x6 := (hA.o8).free 6; have x7 := (hA.o8).free 7; have x8 := (hA.o8).free 8; have x9 := (hA.o8).free 9; have x10 := (hA.o8).free 10; skip))
    have o9 := (((((((((((hA.o8.set 0 (.string ⟨#[]⟩)).set 1 (.string ⟨#[]⟩)).set 2 (.string ⟨#[]⟩)).set 3 (.string ⟨#[]⟩)).set 4 (.bool false)).set 5 (.bool false)).set 6 (.bool false)).set 7 (.bool false)).set 8 (.int .i64 0)).set 9 (.int .i64 0)).set 10 (.int .i64 0))
    have r0 := o9.cell 0 rfl; have r1 := o9.cell 1 rfl; have r2 := o9.cell 2 rfl; have r3 := o9.cell 3 rfl; have r4 := o9.cell 4 rfl; have r5 := o9.cell 5 rfl; have r6 := o9.cell 6 rfl; have r7 := o9.cell 7 rfl; have r8 := o9.cell 8 rfl; have r9 := o9.cell 9 rfl; have r10 := o9.cell 10 rfl; have hbb := hA.hb
    exact bodyPost_ret (v := .tuple #[.agg #[.string ⟨#[]⟩, .string ⟨#[]⟩, .string ⟨#[]⟩, .string ⟨#[]⟩, .bool false, .bool false, .bool false, .bool false, .int .i64 0, .int .i64 0, .int .i64 0], .int .i64 1]) (by simp [results, Tryz.results9, go_sem, r0, r1, r2, r3, r4, r5, r6, r7, r8, r9, r10]) rfl ⟨rfl, (((((((((((hbb.setCell (p := ⟨w.heap.size + 1, 0, none⟩) (Nat.le_succ _) _).setCell (p := ⟨w.heap.size + 1, 1, none⟩) (Nat.le_succ _) _).setCell (p := ⟨w.heap.size + 1, 2, none⟩) (Nat.le_succ _) _).setCell (p := ⟨w.heap.size + 1, 3, none⟩) (Nat.le_succ _) _).setCell (p := ⟨w.heap.size + 1, 4, none⟩) (Nat.le_succ _) _).setCell (p := ⟨w.heap.size + 1, 5, none⟩) (Nat.le_succ _) _).setCell (p := ⟨w.heap.size + 1, 6, none⟩) (Nat.le_succ _) _).setCell (p := ⟨w.heap.size + 1, 7, none⟩) (Nat.le_succ _) _).setCell (p := ⟨w.heap.size + 1, 8, none⟩) (Nat.le_succ _) _).setCell (p := ⟨w.heap.size + 1, 9, none⟩) (Nat.le_succ _) _).setCell (p := ⟨w.heap.size + 1, 10, none⟩) (Nat.le_succ _) _)⟩
  | true =>
  rw [if_pos rfl]
  have hlens := parse_lens head
  have herr := parse_err head
  unfold HParseIs valP at HP
  obtain ⟨q1, q2, L, er, hpar⟩ : ∃ q1 q2 L er, parseH head = ((q1, q2), L, er) := ⟨_, _, _, _, rfl⟩
  rw [hpar] at HP hlens herr ⊢
  dsimp only at HP hlens herr ⊢
  by_cases he : er = 0
  · subst he
    rw [if_pos rfl]
    clear HCk HRu hA o5 o8 hb herr
    have hS2 := short_read (K := 5000) L (fun x hx => by have := (hlens x hx).2; omega)
    have HA := fun a n c v hv hd => attrsReadC a n c L v hv (fun x hx => by have := hlens x hx; omega) hd
    unfold valF at HA
    obtain ⟨hexp, hage, hdom, hpath, ex, ag, dm, pa, se, ht, hrd⟩ : ∃ hexp hage hdom hpath ex ag dm pa se ht, readA L = ⟨hexp, hage, hdom, hpath, ex, ag, dm, pa, se, ht⟩ := ⟨_, _, _, _, _, _, _, _, _, _, rfl⟩
    rw [hrd] at HA hS2 ⊢
    dsimp only at HA
    obtain ⟨ldm, lpa, lag⟩ := hS2
    dsimp only at ldm lpa lag
    obtain ⟨⟨⟨xn, xd, xp, xv, xh, xs, xt, xq, xe, xm, xu⟩, code⟩, hX⟩ : ∃ r, makeOf R gh p script (q1, q2) ⟨hexp, hage, hdom, hpath, ex, ag, dm, pa, se, ht⟩ (clampA now) = r := ⟨_, rfl⟩
    rw [hX]
    exact makeDo a len cap R gh p sec script head now w q1 q2 L hexp hage hdom hpath ex ag dm pa se ht xn xd xp xv xh xs xt xq xe xm xu code hR hS hck hrr l1 l2 (by omega) (by omega) (by omega) hT hD HP HA (Lib.hid hX)
  · rw [if_neg he]
    obtain ⟨⟨rfl, rfl⟩, rfl⟩ : (q1 = [] ∧ q2 = []) ∧ L = [] := by have := herr.2 he; simpa using this
    have he2 : (er != 0) = true := by simpa using he
    simp only [hck] at HCk
    simp only [hrr] at HRu
    clear o5 o8 hb hrr hlens herr hpar he hck hS hR hT hD
    unfold ItemL.none
    have e00 : str [] = ⟨#[]⟩ := rfl
    simp only [e00] at HP
    go_enter Tryz.func9, Tryz.ntmps9
    go_wp2_with (first
      | (go_at_call 18; (with_reducible refine (HCk _ hA.hb).mono ?_); rintro e w2 ⟨rfl, hx⟩; replace hA := hA.below hx; clear hx; have u0 := (hA.o5).cell 0 rfl; have u1 := (hA.o5).cell 1 rfl; have u2 := (hA.o5).cell 2 rfl; have u3 := (hA.o5).cell 3 rfl; have v0 := (hA.o8).cell 0 rfl; have v1 := (hA.o8).cell 1 rfl; have v2 := (hA.o8).cell 2 rfl; have v3 := (hA.o8).cell 3 rfl; have v4 := (hA.o8).cell 4 rfl; have v5 := (hA.o8).cell 5 rfl; have v6 := (hA.o8).cell 6 rfl; have v7 := (hA.o8).cell 7 rfl; have v8 := (hA.o8).cell 8 rfl; have v9 := (hA.o8).cell 9 rfl; have v10 := (hA.o8).cell 10 rfl; have x0 := (hA.o8).free 0; have x1 := (hA.o8).free 1; have x2 := (hA.o8).free 2; have x3 := (hA.o8).free 3; have x4 := (hA.o8).free 4; have x5 := (hA.o8).free 5; have x6 := (hA.o8).free 6; have x7 := (hA.o8).free 7; have x8 := (hA.o8).free 8; have x9 := (hA.o8).free 9; have x10 := (hA.o8).free 10; skip)
      | (go_at_call 19; (with_reducible refine (HRu _ hA.hb).mono ?_); rintro e w3 ⟨rfl, hx⟩; replace hA := hA.below hx; clear hx u0 u1 u2 u3 v0 x0 v1 x1 v2 x2 v3 x3 v4 x4 v5 x5 v6 x6 v7 x7 v8 x8 v9 x9 v10 x10; have v0 := (hA.o8).cell 0 rfl; have v1 := (hA.o8).cell 1 rfl; have v2 := (hA.o8).cell 2 rfl; have v3 := (hA.o8).cell 3 rfl; have v4 := (hA.o8).cell 4 rfl; have v5 := (hA.o8).cell 5 rfl; have v6 := (hA.o8).cell 6 rfl; have v7 := (hA.o8).cell 7 rfl; have v8 := (hA.o8).cell 8 rfl; have v9 := (hA.o8).cell 9 rfl; have v10 := (hA.o8).cell 10 rfl; have x0 := (hA.o8).free 0; have x1 := (hA.o8).free 1; have x2 := (hA.o8).free 2; have x3 := (hA.o8).free 3; have x4 := (hA.o8).free 4; have x5 := (hA.o8).free 5; have x6 := (hA.o8).free 6; have x7 := (hA.o8).free 7; have x8 := (hA.o8).free 8; have x9 := (hA.o8).free 9; have x10 := (hA.o8).free 10; skip)
      | (go_at_call 20; (with_reducible refine (HP _).mono ?_); rintro e w4 ⟨⟨la, ln, lc, rfl, hL⟩, hx⟩; replace hA := hA.below hx; clear hx hL v0 x0 v1 x1 v2 x2 v3 x3 v4 x4 v5 x5 v6 x6 v7 x7 v8 x8 v9 x9 v10 x10; have hx := below_alloc w4 (.cells #[.string ⟨#[]⟩, .string ⟨#[]⟩] 47); replace hA := hA.below hx; clear hx; have v0 := (hA.o8).cell 0 rfl; have v1 := (hA.o8).cell 1 rfl; have v2 := (hA.o8).cell 2 rfl; have v3 := (hA.o8).cell 3 rfl; have v4 := (hA.o8).cell 4 rfl; have v5 := (hA.o8).cell 5 rfl; have v6 := (hA.o8).cell 6 rfl; have v7 := (hA.o8).cell 7 rfl; have v8 := (hA.o8).cell 8 rfl; have v9 := (hA.o8).cell 9 rfl; have v10 := (hA.o8).cell 10 rfl; have x0 := (hA.o8).free 0; have x1 := (hA.o8).free 1; have x2 := (hA.o8).free 2; have x3 := (hA.o8).free 3; have x4 := (hA.o8).free 4; have x5 := (hA.o8).free 5; have x6 := (hA.o8).free 6; have x7 := (hA.o8).free 7; have x8 := (hA.o8).free 8; have x9 := (hA.o8).free 9; have x10 := (hA.o8).free 10; skip))
    have o9 := (((((((((((hA.o8.set 0 (.string ⟨#[]⟩)).set 1 (.string ⟨#[]⟩)).set 2 (.string ⟨#[]⟩)).set 3 (.string ⟨#[]⟩)).set 4 (.bool false)).set 5 (.bool false)).set 6 (.bool false)).set 7 (.bool false)).set 8 (.int .i64 0)).set 9 (.int .i64 0)).set 10 (.int .i64 0))
    have r0 := o9.cell 0 rfl; have r1 := o9.cell 1 rfl; have r2 := o9.cell 2 rfl; have r3 := o9.cell 3 rfl; have r4 := o9.cell 4 rfl; have r5 := o9.cell 5 rfl; have r6 := o9.cell 6 rfl; have r7 := o9.cell 7 rfl; have r8 := o9.cell 8 rfl; have r9 := o9.cell 9 rfl; have r10 := o9.cell 10 rfl; have hbb := hA.hb
    exact bodyPost_ret (v := .tuple #[.agg #[.string ⟨#[]⟩, .string ⟨#[]⟩, .string ⟨#[]⟩, .string ⟨#[]⟩, .bool false, .bool false, .bool false, .bool false, .int .i64 0, .int .i64 0, .int .i64 0], .int .i64 er]) (by simp [results, Tryz.results9, go_sem, r0, r1, r2, r3, r4, r5, r6, r7, r8, r9, r10]) rfl ⟨rfl, (((((((((((hbb.setCell (p := ⟨w.heap.size + 1, 0, none⟩) (Nat.le_succ _) _).setCell (p := ⟨w.heap.size + 1, 1, none⟩) (Nat.le_succ _) _).setCell (p := ⟨w.heap.size + 1, 2, none⟩) (Nat.le_succ _) _).setCell (p := ⟨w.heap.size + 1, 3, none⟩) (Nat.le_succ _) _).setCell (p := ⟨w.heap.size + 1, 4, none⟩) (Nat.le_succ _) _).setCell (p := ⟨w.heap.size + 1, 5, none⟩) (Nat.le_succ _) _).setCell (p := ⟨w.heap.size + 1, 6, none⟩) (Nat.le_succ _) _).setCell (p := ⟨w.heap.size + 1, 7, none⟩) (Nat.le_succ _) _).setCell (p := ⟨w.heap.size + 1, 8, none⟩) (Nat.le_succ _) _).setCell (p := ⟨w.heap.size + 1, 9, none⟩) (Nat.le_succ _) _).setCell (p := ⟨w.heap.size + 1, 10, none⟩) (Nat.le_succ _) _)⟩
end Go.Proofs.YthefieemngmnjaaGreatDoor
