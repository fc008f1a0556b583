/- Contracts and plain words that the laws' proofs stand on, put together. -/
import Derived.Test.YthefieemngmnjaaGreatDoorCookieMkA
import Derived.Test.YthefieemngmnjaaGreatDoorCookieMkD
import Derived.Test.YthefieemngmnjaaGreatDoorCookieMkF
import Derived.Test.YthefieemngmnjaaGreatDoorCookieMkE
import Derived.Test.YthefieemngmnjaaGreatDoorLibAN
/- Contracts of the reference of layer 14: what is made of a header's pair and attributes: the whole. -/
namespace Go.Proofs.YthefieemngmnjaaGreatDoor
open Go.RowKit
set_option linter.unusedVariables false

set_option maxHeartbeats 8000000 in
set_option maxRecDepth 100000 in
theorem refMakeC (a : Option Addr) (len cap : Nat) (R : List (List UInt8)) (gh p : List UInt8) (sec script : Bool) (head : List UInt8) (now : Int) (w : World) (hR : IsStrs w a len cap R) (l1 : gh.length ≤ 2000) (l2 : p.length ≤ 2000) (l3 : head.length ≤ 5000) :
    Calls Tryz.prog 10 #[.slice a len cap, .agg #[.string (str gh), .string (str p), .bool sec, .bool script], .string (str head), .int .i64 now] w fun e w' => e = .returned (.tuple #[.agg #[.string (str (makeX R gh p sec script head now).1.name), .string (str (makeX R gh p sec script head now).1.dom), .string (str (makeX R gh p sec script head now).1.path), .string (str (makeX R gh p sec script head now).1.val), .bool (makeX R gh p sec script head now).1.host, .bool (makeX R gh p sec script head now).1.sec, .bool (makeX R gh p sec script head now).1.http, .bool (makeX R gh p sec script head now).1.pers, .int .i64 (makeX R gh p sec script head now).1.exp, .int .i64 (makeX R gh p sec script head now).1.made, .int .i64 (makeX R gh p sec script head now).1.used], .int .i64 (makeX R gh p sec script head now).2]) ∧ Below w.heap.size w w' := by
  obtain ⟨o5, o8, hb⟩ := two_new w #[.string (str gh), .string (str p), .bool sec, .bool script] #[.string ⟨#[]⟩, .string ⟨#[]⟩, .string ⟨#[]⟩, .string ⟨#[]⟩, .bool false, .bool false, .bool false, .bool false, .int .i64 0, .int .i64 0, .int .i64 0] 24 34
  have hA : StA w _ [.string (str gh), .string (str p), .bool sec, .bool script] [.string ⟨#[]⟩, .string ⟨#[]⟩, .string ⟨#[]⟩, .string ⟨#[]⟩, .bool false, .bool false, .bool false, .bool false, .int .i64 0, .int .i64 0, .int .i64 0] := ⟨o5, o8, hb⟩
  have hR0 := hR.below hA.hb
  have HRl := fun v hv => refRightC a len cap R v hv
  have HRu := fun v => refURightC gh p sec script gh.length p.length v rfl (by omega) rfl (by omega)
  have HP := fun v => refHParseC head head.length v rfl (by omega)
  have hlR := hR.1
  have hk := str_toList
  unfold makeX
  rw [hlR]
  by_cases h1 : 256 < len
  · rw [if_pos h1]
    have h1' : (256 : Int) < (len : Int) := by omega
    clear HRl HRu HP hR0 hA o5 o8 hlR
    unfold ItemL.none
    go_enter Tryz.func10, Tryz.ntmps10
    go_wp2
    exact bodyPost_ret (v := .tuple #[.agg #[.string ⟨#[]⟩, .string ⟨#[]⟩, .string ⟨#[]⟩, .string ⟨#[]⟩, .bool false, .bool false, .bool false, .bool false, .int .i64 0, .int .i64 0, .int .i64 0], .int .i64 3]) (by simp [results, Tryz.results10, go_sem]) rfl ⟨rfl, hb⟩
  rw [if_neg h1]
  have h1' : ¬ (256 : Int) < (len : Int) := by omega
  cases hru : R.all ruleB with
  | false =>
    rw [if_pos (.inl rfl)]
    simp only [hru] at HRl
    clear HRu HP hlR h1 o5 o8 hb hru
    unfold ItemL.none
    go_enter Tryz.func10, Tryz.ntmps10
    go_wp2_with (first
      | (go_at_call 25; (with_reducible refine (HRl _ hR0).mono ?_); rintro e w2 ⟨rfl, hx⟩; replace hA := hA.below hx; clear hx; have u0 := (hA.o5).cell 0 rfl; have u1 := (hA.o5).cell 1 rfl; have u2 := (hA.o5).cell 2 rfl; have u3 := (hA.o5).cell 3 rfl; have v0 := (hA.o8).cell 0 rfl; have v1 := (hA.o8).cell 1 rfl; have v2 := (hA.o8).cell 2 rfl; have v3 := (hA.o8).cell 3 rfl; have v4 := (hA.o8).cell 4 rfl; have v5 := (hA.o8).cell 5 rfl; have v6 := (hA.o8).cell 6 rfl; have v7 := (hA.o8).cell 7 rfl; have v8 := (hA.o8).cell 8 rfl; have v9 := (hA.o8).cell 9 rfl; have v10 := (hA.o8).cell 10 rfl; have x0 := (hA.o8).free 0; have x1 := (hA.o8).free 1; have x2 := (hA.o8).free 2; have x3 := (hA.o8).free 3; have x4 := (hA.o8).free 4; have x5 := (hA.o8).free 5; have x6 := (hA.o8).free 6; have x7 := (hA.o8).free 7; have x8 := (hA.o8).free 8; have x9 := (hA.o8).free 9; have x10 := (hA.o8).free 10; skip))
    have o9 := (((((((((((hA.o8.set 0 (.string ⟨#[]⟩)).set 1 (.string ⟨#[]⟩)).set 2 (.string ⟨#[]⟩)).set 3 (.string ⟨#[]⟩)).set 4 (.bool false)).set 5 (.bool false)).set 6 (.bool false)).set 7 (.bool false)).set 8 (.int .i64 0)).set 9 (.int .i64 0)).set 10 (.int .i64 0))
    have r0 := o9.cell 0 rfl; have r1 := o9.cell 1 rfl; have r2 := o9.cell 2 rfl; have r3 := o9.cell 3 rfl; have r4 := o9.cell 4 rfl; have r5 := o9.cell 5 rfl; have r6 := o9.cell 6 rfl; have r7 := o9.cell 7 rfl; have r8 := o9.cell 8 rfl; have r9 := o9.cell 9 rfl; have r10 := o9.cell 10 rfl; have hbb := hA.hb
    exact bodyPost_ret (v := .tuple #[.agg #[.string ⟨#[]⟩, .string ⟨#[]⟩, .string ⟨#[]⟩, .string ⟨#[]⟩, .bool false, .bool false, .bool false, .bool false, .int .i64 0, .int .i64 0, .int .i64 0], .int .i64 1]) (by simp [results, Tryz.results10, go_sem, r0, r1, r2, r3, r4, r5, r6, r7, r8, r9, r10]) rfl ⟨rfl, (((((((((((hbb.setCell (p := ⟨w.heap.size + 1, 0, none⟩) (Nat.le_succ _) _).setCell (p := ⟨w.heap.size + 1, 1, none⟩) (Nat.le_succ _) _).setCell (p := ⟨w.heap.size + 1, 2, none⟩) (Nat.le_succ _) _).setCell (p := ⟨w.heap.size + 1, 3, none⟩) (Nat.le_succ _) _).setCell (p := ⟨w.heap.size + 1, 4, none⟩) (Nat.le_succ _) _).setCell (p := ⟨w.heap.size + 1, 5, none⟩) (Nat.le_succ _) _).setCell (p := ⟨w.heap.size + 1, 6, none⟩) (Nat.le_succ _) _).setCell (p := ⟨w.heap.size + 1, 7, none⟩) (Nat.le_succ _) _).setCell (p := ⟨w.heap.size + 1, 8, none⟩) (Nat.le_succ _) _).setCell (p := ⟨w.heap.size + 1, 9, none⟩) (Nat.le_succ _) _).setCell (p := ⟨w.heap.size + 1, 10, none⟩) (Nat.le_succ _) _)⟩
  | true =>
  cases hrr : rightU gh p sec with
  | false =>
    rw [if_pos (.inr rfl)]
    simp only [hru] at HRl
    simp only [hrr] at HRu
    clear HP hlR h1 o5 o8 hb hru hrr
    unfold ItemL.none
    go_enter Tryz.func10, Tryz.ntmps10
    go_wp2_with (first
      | (go_at_call 25; (with_reducible refine (HRl _ hR0).mono ?_); rintro e w2 ⟨rfl, hx⟩; replace hA := hA.below hx; clear hx; have u0 := (hA.o5).cell 0 rfl; have u1 := (hA.o5).cell 1 rfl; have u2 := (hA.o5).cell 2 rfl; have u3 := (hA.o5).cell 3 rfl; have v0 := (hA.o8).cell 0 rfl; have v1 := (hA.o8).cell 1 rfl; have v2 := (hA.o8).cell 2 rfl; have v3 := (hA.o8).cell 3 rfl; have v4 := (hA.o8).cell 4 rfl; have v5 := (hA.o8).cell 5 rfl; have v6 := (hA.o8).cell 6 rfl; have v7 := (hA.o8).cell 7 rfl; have v8 := (hA.o8).cell 8 rfl; have v9 := (hA.o8).cell 9 rfl; have v10 := (hA.o8).cell 10 rfl; have x0 := (hA.o8).free 0; have x1 := (hA.o8).free 1; have x2 := (hA.o8).free 2; have x3 := (hA.o8).free 3; have x4 := (hA.o8).free 4; have x5 := (hA.o8).free 5; have x6 := (hA.o8).free 6; have x7 := (hA.o8).free 7; have x8 := (hA.o8).free 8; have x9 := (hA.o8).free 9; have x10 := (hA.o8).free 10; skip)
      | (go_at_call 26; (with_reducible refine (HRu _).mono ?_); rintro e w3 ⟨rfl, hx⟩; replace hA := hA.below hx; clear hx u0 u1 u2 u3 v0 x0 v1 x1 v2 x2 v3 x3 v4 x4 v5 x5 v6 x6 v7 x7 v8 x8 v9 x9 v10 x10; have v0 := (hA.o8).cell 0 rfl; have v1 := (hA.o8).cell 1 rfl; have v2 := (hA.o8).cell 2 rfl; have v3 := (hA.o8).cell 3 rfl; have v4 := (hA.o8).cell 4 rfl; have v5 := (hA.o8).cell 5 rfl; have v6 := (hA.o8).cell 6 rfl; have v7 := (hA.o8).cell 7 rfl; have v8 := (hA.o8).cell 8 rfl; have v9 := (hA.o8).cell 9 rfl; have v10 := (hA.o8).cell 10 rfl; have x0 := (hA.o8).free 0; have x1 := (hA.o8).free 1; have x2 := (hA.o8).free 2; have x3 := (hA.o8).free 3; have x4 := (hA.o8).free 4; have x5 := (hA.o8).free 5; have x6 := (hA.o8).free 6; have x7 := (hA.o8).free 7; have x8 := (hA.o8).free 8; have x9 := (hA.o8).free 9; have x10 := (hA.o8).free 10; skip))
    have o9 := (((((((((((hA.o8.set 0 (.string ⟨#[]⟩)).set 1 (.string ⟨#[]⟩)).set 2 (.string ⟨#[]⟩)).set 3 (.string ⟨#[]⟩)).set 4 (.bool false)).set 5 (.bool false)).set 6 (.bool false)).set 7 (.bool false)).set 8 (.int .i64 0)).set 9 (.int .i64 0)).set 10 (.int .i64 0))
    have r0 := o9.cell 0 rfl; have r1 := o9.cell 1 rfl; have r2 := o9.cell 2 rfl; have r3 := o9.cell 3 rfl; have r4 := o9.cell 4 rfl; have r5 := o9.cell 5 rfl; have r6 := o9.cell 6 rfl; have r7 := o9.cell 7 rfl; have r8 := o9.cell 8 rfl; have r9 := o9.cell 9 rfl; have r10 := o9.cell 10 rfl; have hbb := hA.hb
    exact bodyPost_ret (v := .tuple #[.agg #[.string ⟨#[]⟩, .string ⟨#[]⟩, .string ⟨#[]⟩, .string ⟨#[]⟩, .bool false, .bool false, .bool false, .bool false, .int .i64 0, .int .i64 0, .int .i64 0], .int .i64 1]) (by simp [results, Tryz.results10, go_sem, r0, r1, r2, r3, r4, r5, r6, r7, r8, r9, r10]) rfl ⟨rfl, (((((((((((hbb.setCell (p := ⟨w.heap.size + 1, 0, none⟩) (Nat.le_succ _) _).setCell (p := ⟨w.heap.size + 1, 1, none⟩) (Nat.le_succ _) _).setCell (p := ⟨w.heap.size + 1, 2, none⟩) (Nat.le_succ _) _).setCell (p := ⟨w.heap.size + 1, 3, none⟩) (Nat.le_succ _) _).setCell (p := ⟨w.heap.size + 1, 4, none⟩) (Nat.le_succ _) _).setCell (p := ⟨w.heap.size + 1, 5, none⟩) (Nat.le_succ _) _).setCell (p := ⟨w.heap.size + 1, 6, none⟩) (Nat.le_succ _) _).setCell (p := ⟨w.heap.size + 1, 7, none⟩) (Nat.le_succ _) _).setCell (p := ⟨w.heap.size + 1, 8, none⟩) (Nat.le_succ _) _).setCell (p := ⟨w.heap.size + 1, 9, none⟩) (Nat.le_succ _) _).setCell (p := ⟨w.heap.size + 1, 10, none⟩) (Nat.le_succ _) _)⟩
  | true =>
  rw [if_neg (by rintro (c | c) <;> cases c)]
  have hlens := parse_lens head
  have herr := parse_err head
  unfold HParseIs valP at HP
  obtain ⟨q1, q2, L, er, hpar⟩ : ∃ q1 q2 L er, parseH head = ((q1, q2), L, er) := ⟨_, _, _, _, rfl⟩
  rw [hpar] at HP hlens herr ⊢
  dsimp only at HP hlens herr ⊢
  by_cases he : er = 0
  · subst he
    rw [if_neg (by simp)]
    clear HRl HRu hR0 hA o5 o8 hb herr
    have hS := short_read (K := 5000) L (fun x hx => by have := (hlens x hx).2; omega)
    have HA := fun a n c v hv => refReadC a n c L v hv (fun x hx => by have := hlens x hx; omega)
    unfold valF at HA
    obtain ⟨hexp, hage, hdom, hpath, ex, ag, dm, pa, se, ht, hrd⟩ : ∃ hexp hage hdom hpath ex ag dm pa se ht, readA L = ⟨hexp, hage, hdom, hpath, ex, ag, dm, pa, se, ht⟩ := ⟨_, _, _, _, _, _, _, _, _, _, rfl⟩
    rw [hrd] at HA hS ⊢
    dsimp only at HA
    obtain ⟨ldm, lpa, lag⟩ := hS
    dsimp only at ldm lpa lag
    obtain ⟨⟨⟨xn, xd, xp, xv, xh, xs, xt, xq, xe, xm, xu⟩, code⟩, hX⟩ : ∃ r, makeOf R gh p script (q1, q2) ⟨hexp, hage, hdom, hpath, ex, ag, dm, pa, se, ht⟩ (clampA now) = r := ⟨_, rfl⟩
    rw [hX]
    have HX := Lib.hid hX
    clear hX
    cases hdom with
    | false => exact refMakeA a len cap R gh p sec script head now w q1 q2 L hexp hage hpath ex ag dm pa se ht xn xd xp xv xh xs xt xq xe xm xu code hR h1 hru hrr l1 l2 (by omega) (by omega) (by omega) HP HA HX
    | true =>
      cases hcb : canonB dm with
      | false => exact refMakeErr a len cap R gh p sec script head now w q1 q2 L hexp hage hpath ex ag dm pa se ht xn xd xp xv xh xs xt xq xe xm xu code hR h1 hru hrr l1 l2 (by omega) (by omega) (by omega) (.inl hcb) HP HA HX
      | true =>
        cases hpb : pubN R dm with
        | true =>
          by_cases hdh : dm = gh
          · subst hdh
            exact refMakeD a len cap R dm p sec script head now w q1 q2 L hexp hage hpath ex ag pa se ht xn xd xp xv xh xs xt xq xe xm xu code hR h1 hru hrr l1 l2 (by omega) (by omega) (by omega) hcb hpb HP HA HX
          · exact refMakeErr a len cap R gh p sec script head now w q1 q2 L hexp hage hpath ex ag dm pa se ht xn xd xp xv xh xs xt xq xe xm xu code hR h1 hru hrr l1 l2 (by omega) (by omega) (by omega) (.inr (.inl ⟨hcb, hpb, hdh⟩)) HP HA HX
        | false =>
          cases hmb : matchB gh dm with
          | false => exact refMakeErr a len cap R gh p sec script head now w q1 q2 L hexp hage hpath ex ag dm pa se ht xn xd xp xv xh xs xt xq xe xm xu code hR h1 hru hrr l1 l2 (by omega) (by omega) (by omega) (.inr (.inr ⟨hcb, hpb, hmb⟩)) HP HA HX
          | true => exact refMakeF a len cap R gh p sec script head now w q1 q2 L hexp hage hpath ex ag dm pa se ht xn xd xp xv xh xs xt xq xe xm xu code hR h1 hru hrr l1 l2 (by omega) (by omega) (by omega) hcb hpb hmb HP HA HX
  · rw [if_pos he]
    obtain ⟨⟨rfl, rfl⟩, rfl⟩ : (q1 = [] ∧ q2 = []) ∧ L = [] := by have := herr.2 he; simpa using this
    have he2 : (er != 0) = true := by simpa using he
    simp only [hru] at HRl
    simp only [hrr] at HRu
    clear hlR h1 o5 o8 hb hru hrr hlens herr hpar he
    unfold ItemL.none
    have e00 : str [] = ⟨#[]⟩ := rfl
    simp only [e00] at HP
    go_enter Tryz.func10, Tryz.ntmps10
    go_wp2_with (first
      | (go_at_call 25; (with_reducible refine (HRl _ hR0).mono ?_); rintro e w2 ⟨rfl, hx⟩; replace hA := hA.below hx; clear hx; have u0 := (hA.o5).cell 0 rfl; have u1 := (hA.o5).cell 1 rfl; have u2 := (hA.o5).cell 2 rfl; have u3 := (hA.o5).cell 3 rfl; have v0 := (hA.o8).cell 0 rfl; have v1 := (hA.o8).cell 1 rfl; have v2 := (hA.o8).cell 2 rfl; have v3 := (hA.o8).cell 3 rfl; have v4 := (hA.o8).cell 4 rfl; have v5 := (hA.o8).cell 5 rfl; have v6 := (hA.o8).cell 6 rfl; have v7 := (hA.o8).cell 7 rfl; have v8 := (hA.o8).cell 8 rfl; have v9 := (hA.o8).cell 9 rfl; have v10 := (hA.o8).cell 10 rfl; have x0 := (hA.o8).free 0; have x1 := (hA.o8).free 1; have x2 := (hA.o8).free 2; have x3 := (hA.o8).free 3; have x4 := (hA.o8).free 4; have x5 := (hA.o8).free 5; have x6 := (hA.o8).free 6; have x7 := (hA.o8).free 7; have x8 := (hA.o8).free 8; have x9 := (hA.o8).free 9; have x10 := (hA.o8).free 10; skip)
      | (go_at_call 26; (with_reducible refine (HRu _).mono ?_); rintro e w3 ⟨rfl, hx⟩; replace hA := hA.below hx; clear hx u0 u1 u2 u3 v0 x0 v1 x1 v2 x2 v3 x3 v4 x4 v5 x5 v6 x6 v7 x7 v8 x8 v9 x9 v10 x10; have v0 := (hA.o8).cell 0 rfl; have v1 := (hA.o8).cell 1 rfl; have v2 := (hA.o8).cell 2 rfl; have v3 := (hA.o8).cell 3 rfl; have v4 := (hA.o8).cell 4 rfl; have v5 := (hA.o8).cell 5 rfl; have v6 := (hA.o8).cell 6 rfl; have v7 := (hA.o8).cell 7 rfl; have v8 := (hA.o8).cell 8 rfl; have v9 := (hA.o8).cell 9 rfl; have v10 := (hA.o8).cell 10 rfl; have x0 := (hA.o8).free 0; have x1 := (hA.o8).free 1; have x2 := (hA.o8).free 2; have x3 := (hA.o8).free 3; have x4 := (hA.o8).free 4; have x5 := (hA.o8).free 5; have x6 := (hA.o8).free 6; have x7 := (hA.o8).free 7; have x8 := (hA.o8).free 8; have x9 := (hA.o8).free 9; have x10 := (hA.o8).free 10; skip)
      | (go_at_call 27; (with_reducible refine (HP _).mono ?_); rintro e w4 ⟨⟨la, ln, lc, rfl, hL⟩, hx⟩; replace hA := hA.below hx; clear hx hL v0 x0 v1 x1 v2 x2 v3 x3 v4 x4 v5 x5 v6 x6 v7 x7 v8 x8 v9 x9 v10 x10; have hx := below_alloc w4 (.cells #[.string ⟨#[]⟩, .string ⟨#[]⟩] 60); replace hA := hA.below hx; clear hx; have v0 := (hA.o8).cell 0 rfl; have v1 := (hA.o8).cell 1 rfl; have v2 := (hA.o8).cell 2 rfl; have v3 := (hA.o8).cell 3 rfl; have v4 := (hA.o8).cell 4 rfl; have v5 := (hA.o8).cell 5 rfl; have v6 := (hA.o8).cell 6 rfl; have v7 := (hA.o8).cell 7 rfl; have v8 := (hA.o8).cell 8 rfl; have v9 := (hA.o8).cell 9 rfl; have v10 := (hA.o8).cell 10 rfl; have x0 := (hA.o8).free 0; have x1 := (hA.o8).free 1; have x2 := (hA.o8).free 2; have x3 := (hA.o8).free 3; have x4 := (hA.o8).free 4; have x5 := (hA.o8).free 5; have x6 := (hA.o8).free 6; have x7 := (hA.o8).free 7; have x8 := (hA.o8).free 8; have x9 := (hA.o8).free 9; have x10 := (hA.o8).free 10; skip))
    have o9 := (((((((((((hA.o8.set 0 (.string ⟨#[]⟩)).set 1 (.string ⟨#[]⟩)).set 2 (.string ⟨#[]⟩)).set 3 (.string ⟨#[]⟩)).set 4 (.bool false)).set 5 (.bool false)).set 6 (.bool false)).set 7 (.bool false)).set 8 (.int .i64 0)).set 9 (.int .i64 0)).set 10 (.int .i64 0))
    have r0 := o9.cell 0 rfl; have r1 := o9.cell 1 rfl; have r2 := o9.cell 2 rfl; have r3 := o9.cell 3 rfl; have r4 := o9.cell 4 rfl; have r5 := o9.cell 5 rfl; have r6 := o9.cell 6 rfl; have r7 := o9.cell 7 rfl; have r8 := o9.cell 8 rfl; have r9 := o9.cell 9 rfl; have r10 := o9.cell 10 rfl; have hbb := hA.hb
    exact bodyPost_ret (v := .tuple #[.agg #[.string ⟨#[]⟩, .string ⟨#[]⟩, .string ⟨#[]⟩, .string ⟨#[]⟩, .bool false, .bool false, .bool false, .bool false, .int .i64 0, .int .i64 0, .int .i64 0], .int .i64 er]) (by simp [results, Tryz.results10, go_sem, r0, r1, r2, r3, r4, r5, r6, r7, r8, r9, r10]) rfl ⟨rfl, (((((((((((hbb.setCell (p := ⟨w.heap.size + 1, 0, none⟩) (Nat.le_succ _) _).setCell (p := ⟨w.heap.size + 1, 1, none⟩) (Nat.le_succ _) _).setCell (p := ⟨w.heap.size + 1, 2, none⟩) (Nat.le_succ _) _).setCell (p := ⟨w.heap.size + 1, 3, none⟩) (Nat.le_succ _) _).setCell (p := ⟨w.heap.size + 1, 4, none⟩) (Nat.le_succ _) _).setCell (p := ⟨w.heap.size + 1, 5, none⟩) (Nat.le_succ _) _).setCell (p := ⟨w.heap.size + 1, 6, none⟩) (Nat.le_succ _) _).setCell (p := ⟨w.heap.size + 1, 7, none⟩) (Nat.le_succ _) _).setCell (p := ⟨w.heap.size + 1, 8, none⟩) (Nat.le_succ _) _).setCell (p := ⟨w.heap.size + 1, 9, none⟩) (Nat.le_succ _) _).setCell (p := ⟨w.heap.size + 1, 10, none⟩) (Nat.le_succ _) _)⟩
end Go.Proofs.YthefieemngmnjaaGreatDoor

/- Layer 14's laws, walked: what is made of any header. -/
namespace Go.Proofs.YthefieemngmnjaaGreatDoor
open Go.RowKit
set_option linter.unusedVariables false

theorem eqItem (nm dm pa va : List UInt8) (ho se ht pe : Bool) (ex cr ac : Int) (w : World) :
    Sem.run Tryz.prog (Op.equalIn 10000 34 (.agg #[.string (str nm), .string (str dm), .string (str pa), .string (str va), .bool ho, .bool se, .bool ht, .bool pe, .int .i64 ex, .int .i64 cr, .int .i64 ac]) (.agg #[.string (str nm), .string (str dm), .string (str pa), .string (str va), .bool ho, .bool se, .bool ht, .bool pe, .int .i64 ex, .int .i64 cr, .int .i64 ac])) w = Result.ok true w := by
  have hk := str_toList
  simp [go_sem, hk]

set_option maxHeartbeats 2000000 in
set_option maxRecDepth 100000 in
theorem cookieMakes_walk (a : Option Addr) (n cap : Nat) (R : List (List UInt8)) (h p : List UInt8) (sec scr : Bool) (head : List UInt8) (now : Int) (w : World) (hR : IsStrs w a n cap R) (l1 : (str h).size ≤ maxLen) (l2 : (str p).size ≤ maxLen) (l3 : (str head).size ≤ maxLen) (hT : CTb w) :
    Calls Tryz.prog 3 #[.slice a n cap, .agg #[.string (str h), .string (str p), .bool sec, .bool scr, .string (str head), .int .i64 now]] w fun e w' => e = .returned (.bool true) ∧ Below w.heap.size w w' := by
  rw [str_size] at l1 l2 l3
  have hb0 := below_alloc w (.cells #[.string (str h), .string (str p), .bool sec, .bool scr, .string (str head), .int .i64 now] 26)
  have o0 := ObjAt.new w #[.string (str h), .string (str p), .bool sec, .bool scr, .string (str head), .int .i64 now] 26
  have hR0 := hR.below hb0
  have hT0 := hT.below hb0
  have HL := light14C a n cap R h p sec scr head _ hR0 l1 l2 l3
  cases hlt : light14B R h p head with
  | false =>
    rw [hlt] at HL
    clear hR hR0
    go_enter Tryz.func3, Tryz.ntmps3
    go_wp2_with (first
      | (go_at_call 7; (with_reducible refine HL.mono ?_); rintro e w1 ⟨rfl, hx⟩; have hb1 := hb0.trans (hx.mono hb0.size); have hT1 := hT0.below hx; clear hx)
      | (go_at_call 8; (with_reducible refine (awake14C _ hT1).mono ?_); rintro e w2 ⟨rfl, hx⟩; have hb2 := hb1.trans (hx.mono hb1.size); clear hx))
    go_ret
    exact ⟨rfl, hb2⟩
  | true =>
    rw [hlt] at HL
    obtain ⟨k1, k2, k3, k4, k5⟩ := light14_is hlt
    have hlen := hR.1
    have HM := fun v (hv : IsStrs v a n cap R) t => cookieMakeC a n cap R h p sec scr head now v hv k5 (by omega) k2 k3 k4 t
    have HQ := fun v (hv : IsStrs v a n cap R) => refMakeC a n cap R h p sec scr head now v hv k2 k3 k4
    generalize makeX R h p sec scr head now = r at *
    obtain ⟨x, er⟩ := r
    obtain ⟨nm, dm, pa, va, ho, se, ht, pe, ex, cr, ac, rfl⟩ := item_parts x
    dsimp only at *
    have hE := fun v => eqItem nm dm pa va ho se ht pe ex cr ac v
    have hk := str_toList
    clear hR hlt k1 k2 k3 k4 k5 hlen l1 l2 l3
    go_enter Tryz.func3, Tryz.ntmps3
    go_wp2_with (first
      | (go_at_call 7; (with_reducible refine HL.mono ?_); rintro e w1 ⟨rfl, hx⟩; have hb1 := hb0.trans (hx.mono hb0.size); have hT1 := hT0.below hx; have hR1 := hR0.below hx; have o1 := o0.below hx o0.lt; have c0 := o1.cell 0 rfl; have c1 := o1.cell 1 rfl; have c2 := o1.cell 2 rfl; have c3 := o1.cell 3 rfl; have c4 := o1.cell 4 rfl; have c5 := o1.cell 5 rfl; clear hx)
      | (go_at_call 9; (with_reducible refine (HM _ hR1 hT1).mono ?_); rintro e w2 ⟨rfl, hx⟩; have hb2 := hb1.trans (hx.mono hb1.size); have hT2 := hT1.below hx; have o2 := o1.below hx o1.lt; have hR2 := hR1.below hx; have oI := ObjAt.new w2 #[.string (str nm), .string (str dm), .string (str pa), .string (str va), .bool ho, .bool se, .bool ht, .bool pe, .int .i64 ex, .int .i64 cr, .int .i64 ac] 34; have hbI := below_alloc w2 (.cells #[.string (str nm), .string (str dm), .string (str pa), .string (str va), .bool ho, .bool se, .bool ht, .bool pe, .int .i64 ex, .int .i64 cr, .int .i64 ac] 34); have hb3 := hb2.trans (hbI.mono hb2.size); have hT3 := hT2.below hbI; have hR3 := hR2.below hbI; have o3 := o2.below hbI o2.lt; clear hx; have c0 := o3.cell 0 rfl; have c1 := o3.cell 1 rfl; have c2 := o3.cell 2 rfl; have c3 := o3.cell 3 rfl; have c4 := o3.cell 4 rfl; have c5 := o3.cell 5 rfl; skip)
      | (go_at_call 10; (with_reducible refine (HQ _ hR3).mono ?_); rintro e w4 ⟨rfl, hx⟩; have hb4 := hb3.trans (hx.mono hb3.size); have hT4 := hT3.below hx; have oJ := oI.below hx oI.lt; have oK := ObjAt.new w4 #[.string (str nm), .string (str dm), .string (str pa), .string (str va), .bool ho, .bool se, .bool ht, .bool pe, .int .i64 ex, .int .i64 cr, .int .i64 ac] 34; have hbK := below_alloc w4 (.cells #[.string (str nm), .string (str dm), .string (str pa), .string (str va), .bool ho, .bool se, .bool ht, .bool pe, .int .i64 ex, .int .i64 cr, .int .i64 ac] 34); have hb5 := hb4.trans (hbK.mono hb4.size); have hT5 := hT4.below hbK; have oL := oJ.below hbK oJ.lt; clear hx; have y0 := oK.cell 0 rfl; have y1 := oK.cell 1 rfl; have y2 := oK.cell 2 rfl; have y3 := oK.cell 3 rfl; have y4 := oK.cell 4 rfl; have y5 := oK.cell 5 rfl; have y6 := oK.cell 6 rfl; have y7 := oK.cell 7 rfl; have y8 := oK.cell 8 rfl; have y9 := oK.cell 9 rfl; have y10 := oK.cell 10 rfl; have z0 := oL.cell 0 rfl; have z1 := oL.cell 1 rfl; have z2 := oL.cell 2 rfl; have z3 := oL.cell 3 rfl; have z4 := oL.cell 4 rfl; have z5 := oL.cell 5 rfl; have z6 := oL.cell 6 rfl; have z7 := oL.cell 7 rfl; have z8 := oL.cell 8 rfl; have z9 := oL.cell 9 rfl; have z10 := oL.cell 10 rfl; skip)
      | (go_at_call 8; (with_reducible refine (awake14C _ hT5).mono ?_); rintro e w6 ⟨rfl, hx⟩; have hb6 := hb5.trans (hx.mono hb5.size); clear hx))
    go_ret
    exact ⟨rfl, hb6⟩
end Go.Proofs.YthefieemngmnjaaGreatDoor
