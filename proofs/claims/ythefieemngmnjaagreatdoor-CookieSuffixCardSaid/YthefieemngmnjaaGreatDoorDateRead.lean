/- Contracts of layer 7: what all tokens tell. -/
import Derived.Test.YthefieemngmnjaaGreatDoorLibAK
namespace Go.Proofs.YthefieemngmnjaaGreatDoor
open Go.RowKit
set_option linter.unusedVariables false

def lenOf : Value → Nat
  | .string s => s.size
  | _ => 0

/-- A matcher out of the list. -/
theorem index4 (w : World) : (Instr.index 132 (.agg #[.func (.func 135) #[] #[], .func (.func 136) #[] #[], .func (.func 137) #[] #[], .func (.func 138) #[] #[]]) (.int .i64 0)).run Tryz.prog w = .ok (.func (.func 135) #[] #[]) w ∧
    (Instr.index 132 (.agg #[.func (.func 135) #[] #[], .func (.func 136) #[] #[], .func (.func 137) #[] #[], .func (.func 138) #[] #[]]) (.int .i64 1)).run Tryz.prog w = .ok (.func (.func 136) #[] #[]) w ∧
    (Instr.index 132 (.agg #[.func (.func 135) #[] #[], .func (.func 136) #[] #[], .func (.func 137) #[] #[], .func (.func 138) #[] #[]]) (.int .i64 2)).run Tryz.prog w = .ok (.func (.func 137) #[] #[]) w ∧
    (Instr.index 132 (.agg #[.func (.func 135) #[] #[], .func (.func 136) #[] #[], .func (.func 137) #[] #[], .func (.func 138) #[] #[]]) (.int .i64 3)).run Tryz.prog w = .ok (.func (.func 138) #[] #[]) w := by
  refine ⟨?_, ?_, ?_, ?_⟩ <;> kernel_rfl

theorem eq4 (x0 x1 x2 x3 : Bool) (w : World) : Sem.run Tryz.prog (Op.equalIn 10000 133 (.agg #[.bool x0, .bool x1, .bool x2, .bool x3]) (.agg #[.bool true, .bool true, .bool true, .bool true])) w = Result.ok (x0 && x1 && x2 && x3) w := by
  cases x0 <;> cases x1 <;> cases x2 <;> cases x3 <;> kernel_rfl

def ReadIs (s : St) (b : Nat) (w : World) (e : Ending) (w' : World) : Prop :=
  e = .returned (.tuple #[.agg #[.int .i64 s.vy, .int .i64 s.vm, .int .i64 s.vd, .int .i64 s.vh, .int .i64 s.vi, .int .i64 s.vs], .bool (s.time.isSome && s.day.isSome && s.month.isSome && s.year.isSome)]) ∧ Below b w w'

set_option maxHeartbeats 4000000 in
theorem readC (l : List UInt8) (n : Nat) (w : World) (hl : l.length = n) (hm : n ≤ 1000000000000) (hT : DTab w) :
    Calls Tryz.prog 119 #[.string (str l)] w (ReadIs ((tok [] l).foldl stepD St.none) w.heap.size w) := by
  have hsz : (str l).size = n := by rw [str_size, hl]
  have HN := fun (cur : List UInt8) (hc : cur.length ≤ n) (w : World) => nextC cur cur.length w rfl (by unfold maxLen; omega)
  have HN0 := HN l (by omega)
  have hr0 := word_rest l
  have hnew := readAt_new w 122 122 132 133
  have hI := index4
  obtain ⟨G, hG⟩ : ∃ G, ReadIs ((tok [] l).foldl stepD St.none) w.heap.size w = G := ⟨_, rfl⟩
  rw [hG]
  have hG' := Lib.hid hG
  have H0 : Hid ((tok [] l).foldl stepD St.none = (tok [] l).foldl stepD St.none) := rfl
  clear hG
  obtain ⟨b, hbs⟩ : ∃ b, w.heap.size = b := ⟨_, rfl⟩
  have hnew' := Lib.hid hnew
  have hbs' := Lib.hid hbs
  clear hnew
  go_enter Tryz.func119, Tryz.ntmps119
  go_wp2_with (go_at_call 139; (with_reducible refine (HN0 _).mono ?_); rintro e w2 ⟨rfl, q, rfl⟩; have RA := hnew'.out q)
  generalize World.drewN _ q = wq at *
  go_loopw [7, 8] (fun t r wr => ∃ (cur : List UInt8) (s : St), cur.length ≤ n ∧ t = .string (str (wordD cur)) ∧ r = .string (str (restD cur)) ∧ Hid ((tok [] l).foldl stepD St.none = (tok [] cur).foldl stepD s) ∧ Hid (ReadAt b s w wr)) (fun t r _ => lenOf t + lenOf r)
  case atStart => exact ⟨l, St.none, by omega, rfl, rfl, by first | exact H0 | (unfold Hid; rfl), by unfold Hid; rw [hbs] at RA; exact RA⟩
  case round =>
    obtain ⟨cur, s, hc, rfl, rfl, H, RA⟩ := hrel
    clear H0 HN0 hr0 hnew'
    have hnx := Lib.hid (tok_next cur)
    have hr := word_rest cur
    have hk := str_toList
    by_cases hw : wordD cur = []
    · have e1 : Hid ((tok [] l).foldl stepD St.none = s) := by
        unfold Hid
        rw [H.out, hnx.out, if_pos hw]
        rfl
      rw [hw]
      have p0 := RA.out.p.c0
      have p1 := RA.out.p.c1
      have p2 := RA.out.p.c2
      have p3 := RA.out.p.c3
      have p4 := RA.out.p.c4
      have p5 := RA.out.p.c5
      have m0 := RA.out.m.c0
      have m1 := RA.out.m.c1
      have m2 := RA.out.m.c2
      have m3 := RA.out.m.c3
      have r0 := RA.out.r.c0
      have r1 := RA.out.r.c1
      have r2 := RA.out.r.c2
      have r3 := RA.out.r.c3
      have r4 := RA.out.r.c4
      have r5 := RA.out.r.c5
      have g0 := RA.out.r.f 0 (by omega)
      have g1 := RA.out.r.f 1 (by omega)
      have g2 := RA.out.r.f 2 (by omega)
      have g3 := RA.out.r.f 3 (by omega)
      have g4 := RA.out.r.f 4 (by omega)
      have g5 := RA.out.r.f 5 (by omega)
      have hE := eq4 s.time.isSome s.day.isSome s.month.isSome s.year.isSome
      clear hnx H HN hI
      go_wp2
      go_region
      go_wp2
      have hP := (((((RA.out.r.set0 s.vy).set1 s.vm).set2 s.vd).set3 s.vh).set4 s.vi).set5 s.vs
      have hBB : Below b w (((((((wr.setCell ⟨b, 0, none⟩ (.int .i64 s.vy)).setCell ⟨b, 1, none⟩ (.int .i64 s.vm)).setCell ⟨b, 2, none⟩ (.int .i64 s.vd)).setCell ⟨b, 3, none⟩ (.int .i64 s.vh)).setCell ⟨b, 4, none⟩ (.int .i64 s.vi)).setCell ⟨b, 5, none⟩ (.int .i64 s.vs))) :=
        (((((RA.out.below.setCell (p := ⟨b, 0, none⟩) (Nat.le_refl b) _).setCell (p := ⟨b, 1, none⟩) (Nat.le_refl b) _).setCell (p := ⟨b, 2, none⟩) (Nat.le_refl b) _).setCell (p := ⟨b, 3, none⟩) (Nat.le_refl b) _).setCell (p := ⟨b, 4, none⟩) (Nat.le_refl b) _).setCell (p := ⟨b, 5, none⟩) (Nat.le_refl b) _
      have hD : ∀ (u : World), Below u.heap.size u u.drew := fun u => (Below.refl _ u).drew
      have hP2 := hP.below (hD _)
      have hB2 := hBB.drew
      clear p0 p1 p2 p3 p4 p5 m0 m1 m2 m3 r0 r1 r2 r3 r4 r5 g0 g1 g2 g3 g4 g5 hE
      generalize World.drew _ = v at hP2 hB2 ⊢
      have p0 := hP2.c0
      have p1 := hP2.c1
      have p2 := hP2.c2
      have p3 := hP2.c3
      have p4 := hP2.c4
      have p5 := hP2.c5
      refine bodyPost_ret (v := .tuple #[.agg #[.int .i64 s.vy, .int .i64 s.vm, .int .i64 s.vd, .int .i64 s.vh, .int .i64 s.vi, .int .i64 s.vs], .bool (s.time.isSome && s.day.isSome && s.month.isSome && s.year.isSome)]) (by simp [results, Tryz.results119, go_sem, p0, p1, p2, p3, p4, p5]) rfl ?_
      rw [← hG'.out, e1.out, hbs]
      exact ⟨rfl, hB2⟩
    · have hbn : (wordD cur == []) = false := by
        cases c : wordD cur with
        | nil => exact absurd c hw
        | cons x xs => rfl
      have hpos : 1 ≤ (wordD cur).length := by
        cases c : wordD cur with
        | nil => exact absurd c hw
        | cons x xs => simp
      have H2 : Hid ((tok [] l).foldl stepD St.none = (tok [] (restD cur)).foldl stepD (stepD s (wordD cur))) := by
        unfold Hid
        rw [H.out, hnx.out, if_neg hw]
        rfl
      have HNr := HN (restD cur) (by omega)
      have hrr := word_rest (restD cur)
      have f0 := RA.out.f.c0
      have f1 := RA.out.f.c1
      have f2 := RA.out.f.c2
      have f3 := RA.out.f.c3
      clear hnx H HN
      go_wp2
      go_step3
      go_wp2
      go_step3
      go_wp2
      go_loopw [25] (fun i wr2 => ∃ k : Nat, k ≤ 4 ∧ i = .int .i64 (k : Int) ∧ Hid (∀ j, j < k → takesD s (wordD cur) j = false) ∧ Hid (ReadAt b s w wr2)) (fun i _ => 4 - (intOf i).toNat)
      case atStart => exact ⟨0, by omega, rfl, fun j hj => absurd hj (by omega), RA⟩
      case round =>
        obtain ⟨k, hk4, rfl, hno, RB⟩ := hrel
        have hlenW : (wordD cur).length ≤ maxLen := by unfold maxLen; omega
        have hw3 : (restD cur).length ≤ n := by omega
        clear f0 f1 f2 f3 RA
        rcases (show k = 0 ∨ k = 1 ∨ k = 2 ∨ k = 3 ∨ k = 4 by omega) with rfl | rfl | rfl | rfl | rfl
        · have hi := fun w => (hI w).1
          have m0 := RB.out.m.c0
          have ff := RB.out.m.f 0 (by omega)
          have hlt := RB.out.m.lt
          obtain ⟨g, hg⟩ : ∃ g, s.time.isSome = g := ⟨_, rfl⟩
          rw [hg] at m0
          cases g
          · have HM := isTimeC (wordD cur) _ (b + 1) _ _ _ _ _ _ _ rfl hlenW RB.out.p
            obtain ⟨t, ht⟩ : ∃ t, isTimeB (wordD cur) = t := ⟨_, rfl⟩
            have HT := Lib.hid ht
            have HG := Lib.hid hg
            rw [ht] at HM
            clear ht hg
            cases t
            · simp only [Bool.false_eq_true, if_false] at HM
              go_wp2_with (go_at_call 135; (with_reducible refine HM.mono ?_); rintro e w3 ⟨rfl, hp, hkp⟩)
              go_roundw
              case rel => exact ⟨1, by omega, by go_num, upto_succ hno.out ((takes_no s (wordD cur)).1 HT.out), RB.out.no hp hkp⟩
              case measure => simp [intOf]
            · simp only [if_true] at HM
              go_wp2_with (first
                | (go_at_call 135; (with_reducible refine HM.mono ?_); rintro e w3 ⟨rfl, hp, hkp⟩; have d0 := hkp.cell m0 (by show b + 1 + 1 + 1 ≠ b + 1; omega) (Apart.none _); have d1 := (hkp.frozen (x := ⟨b + 1 + 1 + 1, 0, none⟩) hlt (by show b + 1 + 1 + 1 ≠ b + 1; omega) (Apart.none _)).trans ff)
                | (fail))
              rw [Exit.noGoto_normal]
              go_wp2_with (go_at_call 139; (with_reducible refine (HNr _).mono ?_); rintro e w4 ⟨rfl, q, rfl⟩)
              go_roundw
              case rel => exact ⟨restD cur, stepD s (wordD cur), hw3, rfl, rfl, H2, (by rw [step_0 s (wordD cur) HG.out HT.out]; exact (RB.out.yes (s2 := { s with time := some (valL (wordD cur), valL (timeB (wordD cur)), valL (timeB (timeB (wordD cur)))) }) hp hkp 0 (fun h => h.set0)).of (below_drew _ _))⟩
              case measure => simp only [lenOf, str_size]; first | omega | (simp; omega)
          · have HT := Lib.hid ((takes_met s (wordD cur)).1 hg)
            clear hg
            go_wp2
            go_roundw
            case rel => exact ⟨1, by omega, by go_num, upto_succ hno.out HT.out, RB⟩
            case measure => simp [intOf]
        · have hi := fun w => (hI w).2.1
          have m0 := RB.out.m.c1
          have ff := RB.out.m.f 1 (by omega)
          have hlt := RB.out.m.lt
          obtain ⟨g, hg⟩ : ∃ g, s.day.isSome = g := ⟨_, rfl⟩
          rw [hg] at m0
          cases g
          · have HM := isDayC (wordD cur) _ (b + 1) _ _ _ _ _ _ _ rfl hlenW RB.out.p
            obtain ⟨t, ht⟩ : ∃ t, dig 1 2 (wordD cur) = t := ⟨_, rfl⟩
            have HT := Lib.hid ht
            have HG := Lib.hid hg
            rw [ht] at HM
            clear ht hg
            cases t
            · simp only [Bool.false_eq_true, if_false] at HM
              go_wp2_with (go_at_call 136; (with_reducible refine HM.mono ?_); rintro e w3 ⟨rfl, hp, hkp⟩)
              go_roundw
              case rel => exact ⟨2, by omega, by go_num, upto_succ hno.out ((takes_no s (wordD cur)).2.1 HT.out), RB.out.no hp hkp⟩
              case measure => simp [intOf]
            · simp only [if_true] at HM
              go_wp2_with (first
                | (go_at_call 136; (with_reducible refine HM.mono ?_); rintro e w3 ⟨rfl, hp, hkp⟩; have d0 := hkp.cell m0 (by show b + 1 + 1 + 1 ≠ b + 1; omega) (Apart.none _); have d1 := (hkp.frozen (x := ⟨b + 1 + 1 + 1, 1, none⟩) hlt (by show b + 1 + 1 + 1 ≠ b + 1; omega) (Apart.none _)).trans ff)
                | (fail))
              rw [Exit.noGoto_normal]
              go_wp2_with (go_at_call 139; (with_reducible refine (HNr _).mono ?_); rintro e w4 ⟨rfl, q, rfl⟩)
              go_roundw
              case rel => exact ⟨restD cur, stepD s (wordD cur), hw3, rfl, rfl, H2, (by rw [step_1 s (wordD cur) (hno.out 0 (by omega)) HG.out HT.out]; exact (RB.out.yes (s2 := { s with day := some (valL (wordD cur)) }) hp hkp 1 (fun h => h.set1)).of (below_drew _ _))⟩
              case measure => simp only [lenOf, str_size]; first | omega | (simp; omega)
          · have HT := Lib.hid ((takes_met s (wordD cur)).2.1 hg)
            clear hg
            go_wp2
            go_roundw
            case rel => exact ⟨2, by omega, by go_num, upto_succ hno.out HT.out, RB⟩
            case measure => simp [intOf]
        · have hi := fun w => (hI w).2.2.1
          have m0 := RB.out.m.c2
          have ff := RB.out.m.f 2 (by omega)
          have hlt := RB.out.m.lt
          obtain ⟨g, hg⟩ : ∃ g, s.month.isSome = g := ⟨_, rfl⟩
          rw [hg] at m0
          cases g
          · have HM := isMonthC (wordD cur) _ (b + 1) _ _ _ _ _ _ _ rfl hlenW RB.out.p (hT.below (RB.out.below.mono (by omega)))
            obtain ⟨t, ht⟩ : ∃ t, decide (0 < monL (wordD cur)) = t := ⟨_, rfl⟩
            have HT := Lib.hid ht
            have HG := Lib.hid hg
            have htp : (0 < monL (wordD cur)) = (t = true) := by rw [← ht]; simp
            rw [ht] at HM
            simp only [htp] at HM
            clear ht hg
            cases t
            · simp only [Bool.false_eq_true, if_false] at HM
              go_wp2_with (go_at_call 137; (with_reducible refine HM.mono ?_); rintro e w3 ⟨rfl, hp, hkp⟩)
              go_roundw
              case rel => exact ⟨3, by omega, by go_num, upto_succ hno.out ((takes_no s (wordD cur)).2.2.1 HT.out), RB.out.no hp hkp⟩
              case measure => simp [intOf]
            · simp only [if_true] at HM
              go_wp2_with (first
                | (go_at_call 137; (with_reducible refine HM.mono ?_); rintro e w3 ⟨rfl, hp, hkp⟩; have d0 := hkp.cell m0 (by show b + 1 + 1 + 1 ≠ b + 1; omega) (Apart.none _); have d1 := (hkp.frozen (x := ⟨b + 1 + 1 + 1, 2, none⟩) hlt (by show b + 1 + 1 + 1 ≠ b + 1; omega) (Apart.none _)).trans ff)
                | (fail))
              rw [Exit.noGoto_normal]
              go_wp2_with (go_at_call 139; (with_reducible refine (HNr _).mono ?_); rintro e w4 ⟨rfl, q, rfl⟩)
              go_roundw
              case rel => exact ⟨restD cur, stepD s (wordD cur), hw3, rfl, rfl, H2, (by rw [step_2 s (wordD cur) (hno.out 0 (by omega)) (hno.out 1 (by omega)) HG.out HT.out]; exact (RB.out.yes (s2 := { s with month := some (monL (wordD cur)) }) hp hkp 2 (fun h => h.set2)).of (below_drew _ _))⟩
              case measure => simp only [lenOf, str_size]; first | omega | (simp; omega)
          · have HT := Lib.hid ((takes_met s (wordD cur)).2.2.1 hg)
            clear hg
            go_wp2
            go_roundw
            case rel => exact ⟨3, by omega, by go_num, upto_succ hno.out HT.out, RB⟩
            case measure => simp [intOf]
        · have hi := fun w => (hI w).2.2.2
          have m0 := RB.out.m.c3
          have ff := RB.out.m.f 3 (by omega)
          have hlt := RB.out.m.lt
          obtain ⟨g, hg⟩ : ∃ g, s.year.isSome = g := ⟨_, rfl⟩
          rw [hg] at m0
          cases g
          · have HM := isYearC (wordD cur) _ (b + 1) _ _ _ _ _ _ _ rfl hlenW RB.out.p
            obtain ⟨t, ht⟩ : ∃ t, dig 2 4 (wordD cur) = t := ⟨_, rfl⟩
            have HT := Lib.hid ht
            have HG := Lib.hid hg
            rw [ht] at HM
            clear ht hg
            cases t
            · simp only [Bool.false_eq_true, if_false] at HM
              go_wp2_with (go_at_call 138; (with_reducible refine HM.mono ?_); rintro e w3 ⟨rfl, hp, hkp⟩)
              go_roundw
              case rel => exact ⟨4, by omega, by go_num, upto_succ hno.out ((takes_no s (wordD cur)).2.2.2 HT.out), RB.out.no hp hkp⟩
              case measure => simp [intOf]
            · simp only [if_true] at HM
              go_wp2_with (first
                | (go_at_call 138; (with_reducible refine HM.mono ?_); rintro e w3 ⟨rfl, hp, hkp⟩; have d0 := hkp.cell m0 (by show b + 1 + 1 + 1 ≠ b + 1; omega) (Apart.none _); have d1 := (hkp.frozen (x := ⟨b + 1 + 1 + 1, 3, none⟩) hlt (by show b + 1 + 1 + 1 ≠ b + 1; omega) (Apart.none _)).trans ff)
                | (fail))
              rw [Exit.noGoto_normal]
              go_wp2_with (go_at_call 139; (with_reducible refine (HNr _).mono ?_); rintro e w4 ⟨rfl, q, rfl⟩)
              go_roundw
              case rel => exact ⟨restD cur, stepD s (wordD cur), hw3, rfl, rfl, H2, (by rw [step_3 s (wordD cur) (hno.out 0 (by omega)) (hno.out 1 (by omega)) (hno.out 2 (by omega)) HG.out HT.out]; exact (RB.out.yes (s2 := { s with year := some (valL (wordD cur)) }) hp hkp 3 (fun h => h.set3)).of (below_drew _ _))⟩
              case measure => simp only [lenOf, str_size]; first | omega | (simp; omega)
          · have HT := Lib.hid ((takes_met s (wordD cur)).2.2.2 hg)
            clear hg
            go_wp2
            go_roundw
            case rel => exact ⟨4, by omega, by go_num, upto_succ hno.out HT.out, RB⟩
            case measure => simp [intOf]
        · have e4 := step_no s (wordD cur) hno.out
          have H3 := Lib.hid e4
          clear e4
          go_wp2
          rw [Exit.noGoto_normal]
          go_wp2_with (go_at_call 139; (with_reducible refine (HNr _).mono ?_); rintro e w4 ⟨rfl, q, rfl⟩)
          go_roundw
          case rel => exact ⟨restD cur, stepD s (wordD cur), hw3, rfl, rfl, H2, by rw [H3.out]; exact RB.out.of (below_drew _ _)⟩
          case measure => simp only [lenOf, str_size]; first | omega | (simp; omega)
end Go.Proofs.YthefieemngmnjaaGreatDoor
