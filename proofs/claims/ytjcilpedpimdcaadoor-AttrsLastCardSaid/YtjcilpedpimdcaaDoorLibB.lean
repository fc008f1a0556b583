/- Contracts and plain words that the laws' proofs stand on, put together. -/
import Derived.Test.YtjcilpedpimdcaaDoorLibA
import Derived.Test.YtjcilpedpimdcaaDoorRow
import Derived.Deep.RegionHeld3
import Derived.BigQuiet
import Derived.Deep.AppendSrc
import Derived.Below
import Derived.RangeFuncNested
import Derived.RangeFuncBound
import Derived.RangeFuncCalls
import Derived.RangeFuncLeaves
import Derived.Shelf.Abstract
import Derived.Shelf.RegionOpen
import Derived.WalkKit
import Derived.OwnWalkIn
import Derived.TacticsInMore
import Derived.LoopNIn
import Derived.LoopIn
import Derived.Lib.LaidTab
import Derived.Test.YtjcilpedpimdcaaDoorCards
import Derived.Test.YtjcilpedpimdcaaDoorTie
import Derived.ProofKit
import Derived.OpenShut
import Derived.Deep.DeepHandedRow
import Derived.Shelf.Vars
/- Contracts of the reference of layer 12: a pair. -/
namespace Go.Proofs.YtjcilpedpimdcaaDoor
open Go.RowKit
set_option linter.unusedVariables false

/-- The cells of a pair of texts. -/
def encP (x : List UInt8 × List UInt8) : List Value := [.string (str x.1), .string (str x.2)]
def valP (x : List UInt8 × List UInt8) : Value := .agg #[.string (str x.1), .string (str x.2)]
theorem encP_len (x : List UInt8 × List UInt8) : (encP x).length = 2 := rfl
theorem encP_one (x : List UInt8 × List UInt8) : ∀ u ∈ encP x, u.oneCell' = true := by
  intro u hu
  simp only [encP, List.mem_cons, List.not_mem_nil, or_false] at hu
  rcases hu with rfl | rfl <;> rfl

theorem pair_at {w : World} {a : Option Addr} {n c : Nat} {L : List (List UInt8 × List UInt8)} (h : RowOf encP 2 w a n c L) (k : Nat) (hk : k < n) :
    ∃ x1 x2 g off, L[k]? = some (x1, x2) ∧ a = some ⟨g, off, none⟩ ∧ w.cell? ⟨g, off + k * 2, none⟩ = some (.string (str x1)) ∧ w.cell? ⟨g, off + k * 2 + 1, none⟩ = some (.string (str x2)) := by
  obtain ⟨⟨x1, x2⟩, g, off, h1, h2, h3⟩ := h.at k hk
  exact ⟨x1, x2, g, off, h1, h2, h3 0 _ rfl, h3 1 _ rfl⟩

end Go.Proofs.YtjcilpedpimdcaaDoor

/- Contracts of the reference of layer 12: a header, parted. -/
namespace Go.Proofs.YtjcilpedpimdcaaDoor
open Go.RowKit
set_option linter.unusedVariables false

theorem infoRefPair : (Tryd.prog.info? 38).map (fun i => (i.zero, i.size, i.bytes)) = some (some (.agg #[.string ⟨#[]⟩, .string ⟨#[]⟩]), 2, 32) := by kernel_rfl

/-- What a header's parse gives: the pair, the attributes, the error. -/
def HParseIs (s : List UInt8) (w : World) (e : Ending) (w' : World) : Prop :=
  (∃ a n c, e = .returned (.tuple #[valP (parseH s).1, .slice a n c, .int .i64 (parseH s).2.2]) ∧ RowOf encP 2 w' a n c (parseH s).2.1) ∧ Below w.heap.size w w'

theorem RowOf.none {α : Type} (enc : α → List Value) (z : Nat) (w : World) : RowOf enc z w .none 0 0 ([] : List α) :=
  ⟨rfl, Nat.le_refl _, by unfold maxLen; omega, fun _ => rfl, fun i x h => by simp at h⟩

theorem cell_strs {w : World} {g : Nat} {P : List (List UInt8)} (h : Reads w (some ⟨g, 0, none⟩) (strs P)) (k : Nat) (hk : k < P.length) : w.cell? ⟨g, k, none⟩ = some (.string (str (P.getD k []))) := by
  obtain ⟨b, off, e, hc⟩ := h k (.string (str (P.getD k []))) (by unfold strs; rw [List.getElem?_map, List.getElem?_eq_getElem hk]; simp [List.getD, hk])
  cases e
  rw [Nat.zero_add] at hc
  exact hc

end Go.Proofs.YtjcilpedpimdcaaDoor

/- Contracts of the reference of layer 12: the last of a name, the text, are attributes the same. -/
namespace Go.Proofs.YtjcilpedpimdcaaDoor
open Go.RowKit
set_option linter.unusedVariables false

theorem eqRefPair (a b c d : List UInt8) (w : World) : Sem.run Tryd.prog (Op.equalIn 10000 38 (.agg #[.string (str a), .string (str b)]) (.agg #[.string (str c), .string (str d)])) w = Result.ok (a == c && b == d) w := by
  have hk := str_toList
  cases h1 : a == c <;> cases h2 : b == d <;> simp [go_sem, hk, h1, h2]

theorem below_drawn {B : Nat} {a w : World} (h : Below B a w) (k : Nat) : Below B a (w.drewN k) := ⟨h.os, h.tape, h.output, h.size, h.block⟩

theorem below_quiet {w w' : World} (h : ∃ k, w' = w.drewN k) : Below w.heap.size w w' := by
  obtain ⟨k, rfl⟩ := h
  exact below_drawn (Below.refl _ w) k

end Go.Proofs.YtjcilpedpimdcaaDoor

/- Contracts of layer 7: what all tokens tell. -/
namespace Go.Proofs.YtjcilpedpimdcaaDoor
open Go.RowKit
set_option linter.unusedVariables false

def lenOf : Value → Nat
  | .string s => s.size
  | _ => 0

/-- A matcher out of the list. -/
theorem index4 (w : World) : (Instr.index 71 (.agg #[.func (.func 49) #[] #[], .func (.func 50) #[] #[], .func (.func 51) #[] #[], .func (.func 52) #[] #[]]) (.int .i64 0)).run Tryd.prog w = .ok (.func (.func 49) #[] #[]) w ∧
    (Instr.index 71 (.agg #[.func (.func 49) #[] #[], .func (.func 50) #[] #[], .func (.func 51) #[] #[], .func (.func 52) #[] #[]]) (.int .i64 1)).run Tryd.prog w = .ok (.func (.func 50) #[] #[]) w ∧
    (Instr.index 71 (.agg #[.func (.func 49) #[] #[], .func (.func 50) #[] #[], .func (.func 51) #[] #[], .func (.func 52) #[] #[]]) (.int .i64 2)).run Tryd.prog w = .ok (.func (.func 51) #[] #[]) w ∧
    (Instr.index 71 (.agg #[.func (.func 49) #[] #[], .func (.func 50) #[] #[], .func (.func 51) #[] #[], .func (.func 52) #[] #[]]) (.int .i64 3)).run Tryd.prog w = .ok (.func (.func 52) #[] #[]) w := by
  refine ⟨?_, ?_, ?_, ?_⟩ <;> kernel_rfl

theorem eq4 (x0 x1 x2 x3 : Bool) (w : World) : Sem.run Tryd.prog (Op.equalIn 10000 72 (.agg #[.bool x0, .bool x1, .bool x2, .bool x3]) (.agg #[.bool true, .bool true, .bool true, .bool true])) w = Result.ok (x0 && x1 && x2 && x3) w := by
  cases x0 <;> cases x1 <;> cases x2 <;> cases x3 <;> kernel_rfl

def ReadIs (s : St) (b : Nat) (w : World) (e : Ending) (w' : World) : Prop :=
  e = .returned (.tuple #[.agg #[.int .i64 s.vy, .int .i64 s.vm, .int .i64 s.vd, .int .i64 s.vh, .int .i64 s.vi, .int .i64 s.vs], .bool (s.time.isSome && s.day.isSome && s.month.isSome && s.year.isSome)]) ∧ Below b w w'

set_option maxHeartbeats 4000000 in
theorem readC (l : List UInt8) (n : Nat) (w : World) (hl : l.length = n) (hm : n ≤ 1000000000000) (hT : DTab w) :
    Calls Tryd.prog 40 #[.string (str l)] w (ReadIs ((tok [] l).foldl stepD St.none) w.heap.size w) := by
  have hsz : (str l).size = n := by rw [str_size, hl]
  have HN := fun (cur : List UInt8) (hc : cur.length ≤ n) (w : World) => nextC cur cur.length w rfl (by unfold maxLen; omega)
  have HN0 := HN l (by omega)
  have hr0 := word_rest l
  have hnew := readAt_new w 61 61 71 72
  have hI := index4
  obtain ⟨G, hG⟩ : ∃ G, ReadIs ((tok [] l).foldl stepD St.none) w.heap.size w = G := ⟨_, rfl⟩
  rw [hG]
  have hG' := Lib.hid hG
  have H0 : Hid ((tok [] l).foldl stepD St.none = (tok [] l).foldl stepD St.none) := rfl
  clear hG
  obtain ⟨b, hbs⟩ : ∃ b, w.heap.size = b := ⟨_, rfl⟩
  have hnew' := Lib.hid hnew
  have hbs' := Lib.hid hbs
  clear hnew
  go_enter Tryd.func40, Tryd.ntmps40
  go_wp2_with (go_at_call 53; (with_reducible refine (HN0 _).mono ?_); rintro e w2 ⟨rfl, q, rfl⟩; have RA := hnew'.out q)
  generalize World.drewN _ q = wq at *
  go_loopw [7, 8] (fun t r wr => ∃ (cur : List UInt8) (s : St), cur.length ≤ n ∧ t = .string (str (wordD cur)) ∧ r = .string (str (restD cur)) ∧ Hid ((tok [] l).foldl stepD St.none = (tok [] cur).foldl stepD s) ∧ Hid (ReadAt b s w wr)) (fun t r _ => lenOf t + lenOf r)
  case atStart => exact ⟨l, St.none, by omega, rfl, rfl, by first | exact H0 | (unfold Hid; rfl), by unfold Hid; rw [hbs] at RA; exact RA⟩
  case round =>
    obtain ⟨cur, s, hc, rfl, rfl, H, RA⟩ := hrel
    clear H0 HN0 hr0 hnew'
    have hnx := Lib.hid (tok_next cur)
    have hr := word_rest cur
    have hk := str_toList
    by_cases hw : wordD cur = []
    · have e1 : Hid ((tok [] l).foldl stepD St.none = s) := by
        unfold Hid
        rw [H.out, hnx.out, if_pos hw]
        rfl
      rw [hw]
      have p0 := RA.out.p.c0
      have p1 := RA.out.p.c1
      have p2 := RA.out.p.c2
      have p3 := RA.out.p.c3
      have p4 := RA.out.p.c4
      have p5 := RA.out.p.c5
      have m0 := RA.out.m.c0
      have m1 := RA.out.m.c1
      have m2 := RA.out.m.c2
      have m3 := RA.out.m.c3
      have r0 := RA.out.r.c0
      have r1 := RA.out.r.c1
      have r2 := RA.out.r.c2
      have r3 := RA.out.r.c3
      have r4 := RA.out.r.c4
      have r5 := RA.out.r.c5
      have g0 := RA.out.r.f 0 (by omega)
      have g1 := RA.out.r.f 1 (by omega)
      have g2 := RA.out.r.f 2 (by omega)
      have g3 := RA.out.r.f 3 (by omega)
      have g4 := RA.out.r.f 4 (by omega)
      have g5 := RA.out.r.f 5 (by omega)
      have hE := eq4 s.time.isSome s.day.isSome s.month.isSome s.year.isSome
      clear hnx H HN hI
      go_wp2
      go_region
      go_wp2
      have hP := (((((RA.out.r.set0 s.vy).set1 s.vm).set2 s.vd).set3 s.vh).set4 s.vi).set5 s.vs
      have hBB : Below b w (((((((wr.setCell ⟨b, 0, none⟩ (.int .i64 s.vy)).setCell ⟨b, 1, none⟩ (.int .i64 s.vm)).setCell ⟨b, 2, none⟩ (.int .i64 s.vd)).setCell ⟨b, 3, none⟩ (.int .i64 s.vh)).setCell ⟨b, 4, none⟩ (.int .i64 s.vi)).setCell ⟨b, 5, none⟩ (.int .i64 s.vs))) :=
        (((((RA.out.below.setCell (p := ⟨b, 0, none⟩) (Nat.le_refl b) _).setCell (p := ⟨b, 1, none⟩) (Nat.le_refl b) _).setCell (p := ⟨b, 2, none⟩) (Nat.le_refl b) _).setCell (p := ⟨b, 3, none⟩) (Nat.le_refl b) _).setCell (p := ⟨b, 4, none⟩) (Nat.le_refl b) _).setCell (p := ⟨b, 5, none⟩) (Nat.le_refl b) _
      have hD : ∀ (u : World), Below u.heap.size u u.drew := fun u => (Below.refl _ u).drew
      have hP2 := hP.below (hD _)
      have hB2 := hBB.drew
      clear p0 p1 p2 p3 p4 p5 m0 m1 m2 m3 r0 r1 r2 r3 r4 r5 g0 g1 g2 g3 g4 g5 hE
      generalize World.drew _ = v at hP2 hB2 ⊢
      have p0 := hP2.c0
      have p1 := hP2.c1
      have p2 := hP2.c2
      have p3 := hP2.c3
      have p4 := hP2.c4
      have p5 := hP2.c5
      refine bodyPost_ret (v := .tuple #[.agg #[.int .i64 s.vy, .int .i64 s.vm, .int .i64 s.vd, .int .i64 s.vh, .int .i64 s.vi, .int .i64 s.vs], .bool (s.time.isSome && s.day.isSome && s.month.isSome && s.year.isSome)]) (by simp [results, Tryd.results40, go_sem, p0, p1, p2, p3, p4, p5]) rfl ?_
      rw [← hG'.out, e1.out, hbs]
      exact ⟨rfl, hB2⟩
    · have hbn : (wordD cur == []) = false := by
        cases c : wordD cur with
        | nil => exact absurd c hw
        | cons x xs => rfl
      have hpos : 1 ≤ (wordD cur).length := by
        cases c : wordD cur with
        | nil => exact absurd c hw
        | cons x xs => simp
      have H2 : Hid ((tok [] l).foldl stepD St.none = (tok [] (restD cur)).foldl stepD (stepD s (wordD cur))) := by
        unfold Hid
        rw [H.out, hnx.out, if_neg hw]
        rfl
      have HNr := HN (restD cur) (by omega)
      have hrr := word_rest (restD cur)
      have f0 := RA.out.f.c0
      have f1 := RA.out.f.c1
      have f2 := RA.out.f.c2
      have f3 := RA.out.f.c3
      clear hnx H HN
      go_wp2
      go_step3
      go_wp2
      go_step3
      go_wp2
      go_loopw [25] (fun i wr2 => ∃ k : Nat, k ≤ 4 ∧ i = .int .i64 (k : Int) ∧ Hid (∀ j, j < k → takesD s (wordD cur) j = false) ∧ Hid (ReadAt b s w wr2)) (fun i _ => 4 - (intOf i).toNat)
      case atStart => exact ⟨0, by omega, rfl, fun j hj => absurd hj (by omega), RA⟩
      case round =>
        obtain ⟨k, hk4, rfl, hno, RB⟩ := hrel
        have hlenW : (wordD cur).length ≤ maxLen := by unfold maxLen; omega
        have hw3 : (restD cur).length ≤ n := by omega
        clear f0 f1 f2 f3 RA
        rcases (show k = 0 ∨ k = 1 ∨ k = 2 ∨ k = 3 ∨ k = 4 by omega) with rfl | rfl | rfl | rfl | rfl
        · have hi := fun w => (hI w).1
          have m0 := RB.out.m.c0
          have ff := RB.out.m.f 0 (by omega)
          have hlt := RB.out.m.lt
          obtain ⟨g, hg⟩ : ∃ g, s.time.isSome = g := ⟨_, rfl⟩
          rw [hg] at m0
          cases g
          · have HM := isTimeC (wordD cur) _ (b + 1) _ _ _ _ _ _ _ rfl hlenW RB.out.p
            obtain ⟨t, ht⟩ : ∃ t, isTimeB (wordD cur) = t := ⟨_, rfl⟩
            have HT := Lib.hid ht
            have HG := Lib.hid hg
            rw [ht] at HM
            clear ht hg
            cases t
            · simp only [Bool.false_eq_true, if_false] at HM
              go_wp2_with (go_at_call 49; (with_reducible refine HM.mono ?_); rintro e w3 ⟨rfl, hp, hkp⟩)
              go_roundw
              case rel => exact ⟨1, by omega, by go_num, upto_succ hno.out ((takes_no s (wordD cur)).1 HT.out), RB.out.no hp hkp⟩
              case measure => simp [intOf]
            · simp only [if_true] at HM
              go_wp2_with (first
                | (go_at_call 49; (with_reducible refine HM.mono ?_); rintro e w3 ⟨rfl, hp, hkp⟩; have d0 := hkp.cell m0 (by show b + 1 + 1 + 1 ≠ b + 1; omega) (Apart.none _); have d1 := (hkp.frozen (x := ⟨b + 1 + 1 + 1, 0, none⟩) hlt (by show b + 1 + 1 + 1 ≠ b + 1; omega) (Apart.none _)).trans ff)
                | (fail))
              rw [Exit.noGoto_normal]
              go_wp2_with (go_at_call 53; (with_reducible refine (HNr _).mono ?_); rintro e w4 ⟨rfl, q, rfl⟩)
              go_roundw
              case rel => exact ⟨restD cur, stepD s (wordD cur), hw3, rfl, rfl, H2, (by rw [step_0 s (wordD cur) HG.out HT.out]; exact (RB.out.yes (s2 := { s with time := some (valL (wordD cur), valL (timeB (wordD cur)), valL (timeB (timeB (wordD cur)))) }) hp hkp 0 (fun h => h.set0)).of (below_drew _ _))⟩
              case measure => simp only [lenOf, str_size]; first | omega | (simp; omega)
          · have HT := Lib.hid ((takes_met s (wordD cur)).1 hg)
            clear hg
            go_wp2
            go_roundw
            case rel => exact ⟨1, by omega, by go_num, upto_succ hno.out HT.out, RB⟩
            case measure => simp [intOf]
        · have hi := fun w => (hI w).2.1
          have m0 := RB.out.m.c1
          have ff := RB.out.m.f 1 (by omega)
          have hlt := RB.out.m.lt
          obtain ⟨g, hg⟩ : ∃ g, s.day.isSome = g := ⟨_, rfl⟩
          rw [hg] at m0
          cases g
          · have HM := isDayC (wordD cur) _ (b + 1) _ _ _ _ _ _ _ rfl hlenW RB.out.p
            obtain ⟨t, ht⟩ : ∃ t, dig 1 2 (wordD cur) = t := ⟨_, rfl⟩
            have HT := Lib.hid ht
            have HG := Lib.hid hg
            rw [ht] at HM
            clear ht hg
            cases t
            · simp only [Bool.false_eq_true, if_false] at HM
              go_wp2_with (go_at_call 50; (with_reducible refine HM.mono ?_); rintro e w3 ⟨rfl, hp, hkp⟩)
              go_roundw
              case rel => exact ⟨2, by omega, by go_num, upto_succ hno.out ((takes_no s (wordD cur)).2.1 HT.out), RB.out.no hp hkp⟩
              case measure => simp [intOf]
            · simp only [if_true] at HM
              go_wp2_with (first
                | (go_at_call 50; (with_reducible refine HM.mono ?_); rintro e w3 ⟨rfl, hp, hkp⟩; have d0 := hkp.cell m0 (by show b + 1 + 1 + 1 ≠ b + 1; omega) (Apart.none _); have d1 := (hkp.frozen (x := ⟨b + 1 + 1 + 1, 1, none⟩) hlt (by show b + 1 + 1 + 1 ≠ b + 1; omega) (Apart.none _)).trans ff)
                | (fail))
              rw [Exit.noGoto_normal]
              go_wp2_with (go_at_call 53; (with_reducible refine (HNr _).mono ?_); rintro e w4 ⟨rfl, q, rfl⟩)
              go_roundw
              case rel => exact ⟨restD cur, stepD s (wordD cur), hw3, rfl, rfl, H2, (by rw [step_1 s (wordD cur) (hno.out 0 (by omega)) HG.out HT.out]; exact (RB.out.yes (s2 := { s with day := some (valL (wordD cur)) }) hp hkp 1 (fun h => h.set1)).of (below_drew _ _))⟩
              case measure => simp only [lenOf, str_size]; first | omega | (simp; omega)
          · have HT := Lib.hid ((takes_met s (wordD cur)).2.1 hg)
            clear hg
            go_wp2
            go_roundw
            case rel => exact ⟨2, by omega, by go_num, upto_succ hno.out HT.out, RB⟩
            case measure => simp [intOf]
        · have hi := fun w => (hI w).2.2.1
          have m0 := RB.out.m.c2
          have ff := RB.out.m.f 2 (by omega)
          have hlt := RB.out.m.lt
          obtain ⟨g, hg⟩ : ∃ g, s.month.isSome = g := ⟨_, rfl⟩
          rw [hg] at m0
          cases g
          · have HM := isMonthC (wordD cur) _ (b + 1) _ _ _ _ _ _ _ rfl hlenW RB.out.p (hT.below (RB.out.below.mono (by omega)))
            obtain ⟨t, ht⟩ : ∃ t, decide (0 < monL (wordD cur)) = t := ⟨_, rfl⟩
            have HT := Lib.hid ht
            have HG := Lib.hid hg
            have htp : (0 < monL (wordD cur)) = (t = true) := by rw [← ht]; simp
            rw [ht] at HM
            simp only [htp] at HM
            clear ht hg
            cases t
            · simp only [Bool.false_eq_true, if_false] at HM
              go_wp2_with (go_at_call 51; (with_reducible refine HM.mono ?_); rintro e w3 ⟨rfl, hp, hkp⟩)
              go_roundw
              case rel => exact ⟨3, by omega, by go_num, upto_succ hno.out ((takes_no s (wordD cur)).2.2.1 HT.out), RB.out.no hp hkp⟩
              case measure => simp [intOf]
            · simp only [if_true] at HM
              go_wp2_with (first
                | (go_at_call 51; (with_reducible refine HM.mono ?_); rintro e w3 ⟨rfl, hp, hkp⟩; have d0 := hkp.cell m0 (by show b + 1 + 1 + 1 ≠ b + 1; omega) (Apart.none _); have d1 := (hkp.frozen (x := ⟨b + 1 + 1 + 1, 2, none⟩) hlt (by show b + 1 + 1 + 1 ≠ b + 1; omega) (Apart.none _)).trans ff)
                | (fail))
              rw [Exit.noGoto_normal]
              go_wp2_with (go_at_call 53; (with_reducible refine (HNr _).mono ?_); rintro e w4 ⟨rfl, q, rfl⟩)
              go_roundw
              case rel => exact ⟨restD cur, stepD s (wordD cur), hw3, rfl, rfl, H2, (by rw [step_2 s (wordD cur) (hno.out 0 (by omega)) (hno.out 1 (by omega)) HG.out HT.out]; exact (RB.out.yes (s2 := { s with month := some (monL (wordD cur)) }) hp hkp 2 (fun h => h.set2)).of (below_drew _ _))⟩
              case measure => simp only [lenOf, str_size]; first | omega | (simp; omega)
          · have HT := Lib.hid ((takes_met s (wordD cur)).2.2.1 hg)
            clear hg
            go_wp2
            go_roundw
            case rel => exact ⟨3, by omega, by go_num, upto_succ hno.out HT.out, RB⟩
            case measure => simp [intOf]
        · have hi := fun w => (hI w).2.2.2
          have m0 := RB.out.m.c3
          have ff := RB.out.m.f 3 (by omega)
          have hlt := RB.out.m.lt
          obtain ⟨g, hg⟩ : ∃ g, s.year.isSome = g := ⟨_, rfl⟩
          rw [hg] at m0
          cases g
          · have HM := isYearC (wordD cur) _ (b + 1) _ _ _ _ _ _ _ rfl hlenW RB.out.p
            obtain ⟨t, ht⟩ : ∃ t, dig 2 4 (wordD cur) = t := ⟨_, rfl⟩
            have HT := Lib.hid ht
            have HG := Lib.hid hg
            rw [ht] at HM
            clear ht hg
            cases t
            · simp only [Bool.false_eq_true, if_false] at HM
              go_wp2_with (go_at_call 52; (with_reducible refine HM.mono ?_); rintro e w3 ⟨rfl, hp, hkp⟩)
              go_roundw
              case rel => exact ⟨4, by omega, by go_num, upto_succ hno.out ((takes_no s (wordD cur)).2.2.2 HT.out), RB.out.no hp hkp⟩
              case measure => simp [intOf]
            · simp only [if_true] at HM
              go_wp2_with (first
                | (go_at_call 52; (with_reducible refine HM.mono ?_); rintro e w3 ⟨rfl, hp, hkp⟩; have d0 := hkp.cell m0 (by show b + 1 + 1 + 1 ≠ b + 1; omega) (Apart.none _); have d1 := (hkp.frozen (x := ⟨b + 1 + 1 + 1, 3, none⟩) hlt (by show b + 1 + 1 + 1 ≠ b + 1; omega) (Apart.none _)).trans ff)
                | (fail))
              rw [Exit.noGoto_normal]
              go_wp2_with (go_at_call 53; (with_reducible refine (HNr _).mono ?_); rintro e w4 ⟨rfl, q, rfl⟩)
              go_roundw
              case rel => exact ⟨restD cur, stepD s (wordD cur), hw3, rfl, rfl, H2, (by rw [step_3 s (wordD cur) (hno.out 0 (by omega)) (hno.out 1 (by omega)) (hno.out 2 (by omega)) HG.out HT.out]; exact (RB.out.yes (s2 := { s with year := some (valL (wordD cur)) }) hp hkp 3 (fun h => h.set3)).of (below_drew _ _))⟩
              case measure => simp only [lenOf, str_size]; first | omega | (simp; omega)
          · have HT := Lib.hid ((takes_met s (wordD cur)).2.2.2 hg)
            clear hg
            go_wp2
            go_roundw
            case rel => exact ⟨4, by omega, by go_num, upto_succ hno.out HT.out, RB⟩
            case measure => simp [intOf]
        · have e4 := step_no s (wordD cur) hno.out
          have H3 := Lib.hid e4
          clear e4
          go_wp2
          rw [Exit.noGoto_normal]
          go_wp2_with (go_at_call 53; (with_reducible refine (HNr _).mono ?_); rintro e w4 ⟨rfl, q, rfl⟩)
          go_roundw
          case rel => exact ⟨restD cur, stepD s (wordD cur), hw3, rfl, rfl, H2, by rw [H3.out]; exact RB.out.of (below_drew _ _)⟩
          case measure => simp only [lenOf, str_size]; first | omega | (simp; omega)
end Go.Proofs.YtjcilpedpimdcaaDoor

/- Contracts of layer 7: a text as a cookie's date. -/
namespace Go.Proofs.YtjcilpedpimdcaaDoor
open Go.RowKit
set_option linter.unusedVariables false

theorem tells_no (s : St) (h : (s.time.isSome && s.day.isSome && s.month.isSome && s.year.isSome) = false) : s.tells = (0, false) := by
  obtain ⟨a, b, c, d⟩ := s
  cases a <;> cases b <;> cases c <;> cases d
  all_goals first
    | rfl
    | simp at h
theorem tells_yes (s : St) (h : (s.time.isSome && s.day.isSome && s.month.isSome && s.year.isSome) = true) : ∃ h mi se d m y, s = ⟨some (h, mi, se), some d, some m, some y⟩ := by
  obtain ⟨a, b, c, d⟩ := s
  cases a <;> cases b <;> cases c <;> cases d
  all_goals first
    | exact ⟨_, _, _, _, _, _, rfl⟩
    | simp at h

theorem right_tells (h mi se d m y : Nat) (hm : 1 ≤ m ∧ m ≤ 12) :
    (h ≤ 23 ∧ mi ≤ 59 ∧ se ≤ 59 ∧ RightI (yearUp y) (m - 1) d ∧ tells h mi se d m y = (daysI (yearUp y) (m - 1) d * 86400 + (h : Int) * 3600 + (mi : Int) * 60 + (se : Int), true)) ∨
    ((23 < h ∨ 59 < mi ∨ 59 < se ∨ WrongI (yearUp y) m d) ∧ tells h mi se d m y = (0, false)) := by
  unfold tells
  by_cases c : h ≤ 23 ∧ mi ≤ 59 ∧ se ≤ 59 ∧ 1601 ≤ yearUp y ∧ yearUp y ≤ 9999 ∧ 1 ≤ d ∧ (d : Int) ≤ longI (yearUp y) (m - 1)
  · rw [if_pos c]
    exact .inl ⟨c.1, c.2.1, c.2.2.1, ⟨by omega, by omega, by omega, by omega, c.2.2.2.2.2.2⟩, rfl⟩
  · rw [if_neg c]
    refine .inr ⟨?_, rfl⟩
    by_cases c1 : h ≤ 23
    · by_cases c2 : mi ≤ 59
      · by_cases c3 : se ≤ 59
        · refine .inr (.inr (.inr ?_))
          rcases right_or (yearUp y) m d with ⟨M, hM, hR⟩ | hW
          · have e : m - 1 = M := by omega
            rw [e] at c
            obtain ⟨h1, h2, h3, h4, h5⟩ := hR
            exact absurd ⟨c1, c2, c3, by omega, by omega, by omega, h5⟩ c
          · exact hW
        · exact .inr (.inr (.inl (by omega)))
      · exact .inr (.inl (by omega))
    · exact .inl (by omega)

theorem yearUp_le (y : Nat) (h : y ≤ 1099511627776) : yearUp y ≤ 1099511629776 := by
  unfold yearUp
  split
  · omega
  · split <;> omega

set_option maxHeartbeats 1000000 in
theorem parseC (l : List UInt8) (n : Nat) (w : World) (hl : l.length = n) (hm : n ≤ 1000000000000) (hT : DTab w) :
    Calls Tryd.prog 19 #[.string (str l)] w fun e w' => e = .returned (.tuple #[.int .i64 (parseL l).1, .int .i64 (if (parseL l).2 = true then 0 else 1)]) ∧ Below w.heap.size w w' := by
  have HR := readC l n w hl hm hT
  have hok := foldD_ok (tok [] l) St.none St.none_ok
  unfold parseL
  unfold ReadIs at HR
  generalize (tok [] l).foldl stepD St.none = s at *
  obtain ⟨A, hA⟩ : ∃ A, (s.time.isSome && s.day.isSome && s.month.isSome && s.year.isSome) = A := ⟨_, rfl⟩
  cases A with
  | false =>
    rw [tells_no s hA]
    rw [hA] at HR
    simp only [Bool.false_eq_true, if_false]
    clear hA hok
    generalize s.vy = vy at *
    generalize s.vm = vm at *
    generalize s.vd = vd at *
    generalize s.vh = vh at *
    generalize s.vi = vi at *
    generalize s.vs = vs at *
    go_enter Tryd.func19, Tryd.ntmps19
    go_wp2_with (go_at_call 40; (with_reducible refine HR.mono ?_); rintro e w2 ⟨rfl, hb⟩)
    go_ret2
    exact ⟨rfl, hb.alloc hb.size _⟩
  | true =>
    rw [hA] at HR
    obtain ⟨h, mi, se, d, m, y, rfl⟩ := tells_yes s hA
    clear hA
    have k1 := hok.t h mi se rfl
    have k2 := hok.d d rfl
    have k3 := hok.m m rfl
    have k4 := yearUp_le y (hok.y y rfl)
    have HT := Lib.hid (right_tells h mi se d m y k3)
    change Calls Tryd.prog 40 #[.string (str l)] w (fun e w' => e = .returned (.tuple #[.agg #[.int .i64 (yearUp y : Int), .int .i64 (m : Int), .int .i64 (d : Int), .int .i64 (h : Int), .int .i64 (mi : Int), .int .i64 (se : Int)], .bool true]) ∧ Below w.heap.size w w') at HR
    show Calls Tryd.prog 19 #[.string (str l)] w fun e w' => e = .returned (.tuple #[.int .i64 (tells h mi se d m y).1, .int .i64 (if (tells h mi se d m y).2 = true then 0 else 1)]) ∧ Below w.heap.size w w'
    generalize yearUp y = Y at *
    clear hok hl
    rcases HT.out with ⟨c1, c2, c3, hR, e⟩ | ⟨hw, e⟩
    · rw [e]
      have hin := days_in hR
      have HD := fun w' hT' => daysYes (Y : Int) (m - 1) d (m : Int) w' (by omega) hR hT'
      obtain ⟨h1, h2, h3, h4⟩ := hin
      generalize daysI (Y : Int) (m - 1) d = D at *
      clear e HT h1 h2 hR
      go_enter Tryd.func19, Tryd.ntmps19
      go_wp2_with (first
        | (go_at_call 40; (with_reducible refine HR.mono ?_); rintro e w2 ⟨rfl, hb⟩)
        | (go_at_call 41; (with_reducible refine (HD _ (hT.below (hb.alloc hb.size _))).mono ?_); rintro e w3 ⟨rfl, rfl⟩))
      go_ret2
      exact ⟨rfl, hb.alloc hb.size _⟩
    · rw [e]
      clear e HT
      simp only [Bool.false_eq_true, if_false]
      by_cases c1 : 23 < h
      · clear hw
        go_enter Tryd.func19, Tryd.ntmps19
        go_wp2_with (go_at_call 40; (with_reducible refine HR.mono ?_); rintro e w2 ⟨rfl, hb⟩)
        go_ret2
        exact ⟨rfl, hb.alloc hb.size _⟩
      by_cases c2 : 59 < mi
      · clear hw
        go_enter Tryd.func19, Tryd.ntmps19
        go_wp2_with (go_at_call 40; (with_reducible refine HR.mono ?_); rintro e w2 ⟨rfl, hb⟩)
        go_ret2
        exact ⟨rfl, hb.alloc hb.size _⟩
      by_cases c3 : 59 < se
      · clear hw
        go_enter Tryd.func19, Tryd.ntmps19
        go_wp2_with (go_at_call 40; (with_reducible refine HR.mono ?_); rintro e w2 ⟨rfl, hb⟩)
        go_ret2
        exact ⟨rfl, hb.alloc hb.size _⟩
      · have hW : WrongI (Y : Int) (m : Int) (d : Int) := by
          rcases hw with hw | hw | hw | hw
          · exact absurd hw c1
          · exact absurd hw c2
          · exact absurd hw c3
          · exact hw
        have HD := fun w' hT' => daysNo (Y : Int) (m : Int) (d : Int) w' hW (by omega) (by omega) (by omega) (by omega) (by omega) (by omega) hT'
        clear hw hW
        go_enter Tryd.func19, Tryd.ntmps19
        go_wp2_with (first
          | (go_at_call 40; (with_reducible refine HR.mono ?_); rintro e w2 ⟨rfl, hb⟩)
          | (go_at_call 41; (with_reducible refine (HD _ (hT.below (hb.alloc hb.size _))).mono ?_); rintro e w3 ⟨rfl, rfl⟩))
        go_ret2
        exact ⟨rfl, hb.alloc hb.size _⟩
end Go.Proofs.YtjcilpedpimdcaaDoor

/- Contracts of the reference of layer 13: when what is said ends. -/
namespace Go.Proofs.YtjcilpedpimdcaaDoor
open Go.RowKit
set_option linter.unusedVariables false

set_option maxHeartbeats 4000000 in
set_option maxRecDepth 100000 in
theorem refExpiryC (hexp hage hdom hpath : Bool) (ex ag : Int) (dm pa : List UInt8) (se ht : Bool) (now : Int) (w : World) (ha : -9223372036854775808 ≤ ag ∧ ag ≤ 9223372036854775807) :
    Calls Tryd.prog 13 #[.agg #[.bool hexp, .bool hage, .bool hdom, .bool hpath, .int .i64 ex, .int .i64 ag, .string (str dm), .string (str pa), .bool se, .bool ht], .int .i64 now] w fun e w' => e = .returned (.tuple #[.int .i64 (expiryA ⟨hexp, hage, hdom, hpath, ex, ag, dm, pa, se, ht⟩ now).1, .bool (expiryA ⟨hexp, hage, hdom, hpath, ex, ag, dm, pa, se, ht⟩ now).2]) ∧ Below w.heap.size w w' := by
  have hb := below_alloc w (.cells #[.bool hexp, .bool hage, .bool hdom, .bool hpath, .int .i64 ex, .int .i64 ag, .string (str dm), .string (str pa), .bool se, .bool ht] 26)
  obtain ⟨ha1, ha2⟩ := ha
  by_cases h1 : now < 0
  · have k1 : clampA now = 0 := by unfold clampA; rw [if_pos h1]
    cases hage with
    | true =>
      by_cases h3 : ag ≤ 0
      · have h3' : ag ≤ 0 := h3
        rw [show expiryA ⟨hexp, true, hdom, hpath, ex, ag, dm, pa, se, ht⟩ now = (-1099511627776, true) by unfold expiryA; rw [if_pos rfl, if_pos h3]]
        go_enter Tryd.func13, Tryd.ntmps13
        go_wp2
        go_ret2
        exact ⟨rfl, hb⟩
      by_cases h4 : 1099511627776 - (0 : Int) < ag
      · rw [show expiryA ⟨hexp, true, hdom, hpath, ex, ag, dm, pa, se, ht⟩ now = (1099511627776, true) by unfold expiryA; rw [if_pos rfl, if_neg h3, k1, if_pos h4]]
        go_enter Tryd.func13, Tryd.ntmps13
        go_wp2
        go_ret2
        exact ⟨rfl, hb⟩
      have h5 : (0 : Int) ≤ 0 + ag := by omega
      have h6 : (0 : Int) + ag ≤ 1099511627776 := by omega
      rw [show expiryA ⟨hexp, true, hdom, hpath, ex, ag, dm, pa, se, ht⟩ now = (0 + ag, true) by unfold expiryA; rw [if_pos rfl, if_neg h3, k1, if_neg h4]]
      go_enter Tryd.func13, Tryd.ntmps13
      go_wp2
      go_ret2
      exact ⟨rfl, hb⟩
    | false =>
      cases hexp with
      | true =>
        rw [show expiryA ⟨true, false, hdom, hpath, ex, ag, dm, pa, se, ht⟩ now = (ex, true) by simp [expiryA]]
        go_enter Tryd.func13, Tryd.ntmps13
        go_wp2
        go_ret2
        exact ⟨rfl, hb⟩
      | false =>
        rw [show expiryA ⟨false, false, hdom, hpath, ex, ag, dm, pa, se, ht⟩ now = (1099511627776, false) by simp [expiryA]]
        go_enter Tryd.func13, Tryd.ntmps13
        go_wp2
        go_ret2
        exact ⟨rfl, hb⟩
  by_cases h2 : 1099511627776 < now
  · have k1 : clampA now = 1099511627776 := by unfold clampA; rw [if_neg h1, if_pos h2]
    cases hage with
    | true =>
      by_cases h3 : ag ≤ 0
      · have h3' : ag ≤ 0 := h3
        rw [show expiryA ⟨hexp, true, hdom, hpath, ex, ag, dm, pa, se, ht⟩ now = (-1099511627776, true) by unfold expiryA; rw [if_pos rfl, if_pos h3]]
        go_enter Tryd.func13, Tryd.ntmps13
        go_wp2
        go_ret2
        exact ⟨rfl, hb⟩
      by_cases h4 : 1099511627776 - (1099511627776 : Int) < ag
      · rw [show expiryA ⟨hexp, true, hdom, hpath, ex, ag, dm, pa, se, ht⟩ now = (1099511627776, true) by unfold expiryA; rw [if_pos rfl, if_neg h3, k1, if_pos h4]]
        go_enter Tryd.func13, Tryd.ntmps13
        go_wp2
        go_ret2
        exact ⟨rfl, hb⟩
      exact absurd h4 (by omega)
    | false =>
      cases hexp with
      | true =>
        rw [show expiryA ⟨true, false, hdom, hpath, ex, ag, dm, pa, se, ht⟩ now = (ex, true) by simp [expiryA]]
        go_enter Tryd.func13, Tryd.ntmps13
        go_wp2
        go_ret2
        exact ⟨rfl, hb⟩
      | false =>
        rw [show expiryA ⟨false, false, hdom, hpath, ex, ag, dm, pa, se, ht⟩ now = (1099511627776, false) by simp [expiryA]]
        go_enter Tryd.func13, Tryd.ntmps13
        go_wp2
        go_ret2
        exact ⟨rfl, hb⟩
  have k1 : clampA now = now := by unfold clampA; rw [if_neg h1, if_neg h2]
  cases hage with
  | true =>
    by_cases h3 : ag ≤ 0
    · have h3' : ag ≤ 0 := h3
      rw [show expiryA ⟨hexp, true, hdom, hpath, ex, ag, dm, pa, se, ht⟩ now = (-1099511627776, true) by unfold expiryA; rw [if_pos rfl, if_pos h3]]
      go_enter Tryd.func13, Tryd.ntmps13
      go_wp2
      go_ret2
      exact ⟨rfl, hb⟩
    by_cases h4 : 1099511627776 - (now : Int) < ag
    · rw [show expiryA ⟨hexp, true, hdom, hpath, ex, ag, dm, pa, se, ht⟩ now = (1099511627776, true) by unfold expiryA; rw [if_pos rfl, if_neg h3, k1, if_pos h4]]
      go_enter Tryd.func13, Tryd.ntmps13
      go_wp2
      go_ret2
      exact ⟨rfl, hb⟩
    have h5 : (0 : Int) ≤ now + ag := by omega
    have h6 : (now : Int) + ag ≤ 1099511627776 := by omega
    rw [show expiryA ⟨hexp, true, hdom, hpath, ex, ag, dm, pa, se, ht⟩ now = (now + ag, true) by unfold expiryA; rw [if_pos rfl, if_neg h3, k1, if_neg h4]]
    go_enter Tryd.func13, Tryd.ntmps13
    go_wp2
    go_ret2
    exact ⟨rfl, hb⟩
  | false =>
    cases hexp with
    | true =>
      rw [show expiryA ⟨true, false, hdom, hpath, ex, ag, dm, pa, se, ht⟩ now = (ex, true) by simp [expiryA]]
      go_enter Tryd.func13, Tryd.ntmps13
      go_wp2
      go_ret2
      exact ⟨rfl, hb⟩
    | false =>
      rw [show expiryA ⟨false, false, hdom, hpath, ex, ag, dm, pa, se, ht⟩ now = (1099511627776, false) by simp [expiryA]]
      go_enter Tryd.func13, Tryd.ntmps13
      go_wp2
      go_ret2
      exact ⟨rfl, hb⟩
end Go.Proofs.YtjcilpedpimdcaaDoor

/- Contracts of layer 13: when what is said ends. -/
namespace Go.Proofs.YtjcilpedpimdcaaDoor
open Go.RowKit
set_option linter.unusedVariables false

set_option maxHeartbeats 4000000 in
set_option maxRecDepth 100000 in
theorem attrsExpiryC (hexp hage hdom hpath : Bool) (ex ag : Int) (dm pa : List UInt8) (se ht : Bool) (now : Int) (w : World) (ha : -9223372036854775808 ≤ ag ∧ ag ≤ 9223372036854775807) :
    Calls Tryd.prog 12 #[.agg #[.bool hexp, .bool hage, .bool hdom, .bool hpath, .int .i64 ex, .int .i64 ag, .string (str dm), .string (str pa), .bool se, .bool ht], .int .i64 now] w fun e w' => e = .returned (.tuple #[.int .i64 (expiryA ⟨hexp, hage, hdom, hpath, ex, ag, dm, pa, se, ht⟩ now).1, .bool (expiryA ⟨hexp, hage, hdom, hpath, ex, ag, dm, pa, se, ht⟩ now).2]) ∧ Below w.heap.size w w' := by
  have hb := below_alloc w (.cells #[.bool hexp, .bool hage, .bool hdom, .bool hpath, .int .i64 ex, .int .i64 ag, .string (str dm), .string (str pa), .bool se, .bool ht] 27)
  obtain ⟨ha1, ha2⟩ := ha
  cases hage with
  | false =>
    cases hexp with
    | true =>
      rw [show expiryA ⟨true, false, hdom, hpath, ex, ag, dm, pa, se, ht⟩ now = (ex, true) by simp [expiryA]]
      go_enter Tryd.func12, Tryd.ntmps12
      go_wp2
      go_ret2
      exact ⟨rfl, hb⟩
    | false =>
      rw [show expiryA ⟨false, false, hdom, hpath, ex, ag, dm, pa, se, ht⟩ now = (1099511627776, false) by simp [expiryA]]
      go_enter Tryd.func12, Tryd.ntmps12
      go_wp2
      go_ret2
      exact ⟨rfl, hb⟩
  | true =>
    by_cases h3 : ag ≤ 0
    · have h3' : ag ≤ 0 := h3
      have h3n : ¬ ag > 0 := by omega
      rw [show expiryA ⟨hexp, true, hdom, hpath, ex, ag, dm, pa, se, ht⟩ now = (-1099511627776, true) by unfold expiryA; rw [if_pos rfl, if_pos h3]]
      go_enter Tryd.func12, Tryd.ntmps12
      go_wp2
      go_ret2
      exact ⟨rfl, hb⟩
    have h3y : ag > 0 := by omega
    rw [show expiryA ⟨hexp, true, hdom, hpath, ex, ag, dm, pa, se, ht⟩ now = (min (max now 0) 1099511627776 + min ag (1099511627776 - min (max now 0) 1099511627776), true) by
      unfold expiryA clampA
      rw [if_pos rfl, if_neg h3]
      dsimp only
      (repeat' split) <;> simp only [Prod.mk.injEq, and_true] <;> omega]
    go_enter Tryd.func12, Tryd.ntmps12
    go_wp2
    go_ret2
    exact ⟨rfl, hb⟩
end Go.Proofs.YtjcilpedpimdcaaDoor

/- Appending strings to a row of bytes that a conversion of a string made. No program in it. -/
namespace Go.Proofs.YtjcilpedpimdcaaDoor
open Go.RowKit
set_option linter.unusedVariables false

/-- A row of bytes of the call's own, with its room. -/
structure TextAt (base g n c : Nat) (l : List UInt8) (w : World) : Prop where
  low : base ≤ g
  lt : g < w.heap.size
  len : l.length = n
  cap : n ≤ c
  most : c ≤ maxLen
  there : ∀ i, i < c → (w.cell? ⟨g, i, none⟩).isSome = true
  free : ∀ i, i < c → w.frozen? ⟨g, i, none⟩ = false
  at_ : ∀ i, i < n → w.cell? ⟨g, i, none⟩ = some (.int .u8 ((l.getD i 0).toNat : Int))

theorem TextAt.same {base g n c : Nat} {l : List UInt8} {w w' : World} (h : TextAt base g n c l w) (hg : w'.heap[g]? = w.heap[g]?) (hs : w.heap.size ≤ w'.heap.size) : TextAt base g n c l w' := by
  have hc : ∀ i, w'.cell? ⟨g, i, none⟩ = w.cell? ⟨g, i, none⟩ := fun i => by simp only [World.cell?, hg]
  have hf : ∀ i, w'.frozen? ⟨g, i, none⟩ = w.frozen? ⟨g, i, none⟩ := fun i => by simp only [World.frozen?, hg]
  exact ⟨h.low, Nat.lt_of_lt_of_le h.lt hs, h.len, h.cap, h.most, fun i hi => by rw [hc]; exact h.there i hi, fun i hi => by rw [hf]; exact h.free i hi, fun i hi => by rw [hc]; exact h.at_ i hi⟩

theorem TextAt.alloc {base g n c : Nat} {l : List UInt8} {w : World} (h : TextAt base g n c l w) (o : Obj) : TextAt base g n c l (w.alloc o) :=
  h.same (Below.heap_alloc w o g h.lt) (by simp)

theorem TextAt.new (w : World) (e : TypeId) (l : List UInt8) (n : Nat) (hn : l.length = n) (hm : n ≤ maxLen) : TextAt w.heap.size w.heap.size n (grownCap w n 0 e) l (Lib.bytesWorld w e (str l)) := by
  have hg := Lib.bytesWorld_at_new w e (str l)
  have hz : (str l).size = n := by rw [str_size, hn]
  have hge := grownCap_ge w n 0 e
  have hsz : (Lib.bytesCells w e (str l)).size = grownCap w n 0 e := by
    unfold Lib.bytesCells
    rw [hz]
    have hd : (str l).data.size = n := hz
    simp [hd]
    omega
  have hb := BRow.new w e l
  refine ⟨Nat.le_refl _, by rw [Lib.bytesWorld_size]; omega, hn, hge, grownCap_le_maxLen w n 0 e hm, fun i hi => ?_, fun i hi => ?_, fun i hi => hb.cell i (by omega)⟩
  · rw [cell_of_row _ _ _ _ _ _ hg, Array.getElem?_eq_getElem (by omega)]
    rfl
  · simp only [World.frozen?, hg]
    have : ¬ (Lib.bytesCells w e (str l)).size ≤ i := by omega
    simp [this]

theorem TextAt.back {P : Program} {base g n c : Nat} {l : List UInt8} {w : World} (h : TextAt base g n c l w) (src dst e : TypeId) (hs : P.underlying src = some (.slice e)) (he : P.underlying e = some (.int .u8)) (hd : P.underlying dst = some .string) :
    (convert src dst (.slice (some ⟨g, 0, none⟩) n c)).run P w = .ok (.string (str l)) w := by
  have hl := h.len
  subst hl
  refine run_convert_bytes_back w src dst e ⟨g, 0, none⟩ c l hs he hd fun j hj => ?_
  have := h.at_ j hj
  simp only [List.getD, List.getElem?_eq_getElem hj, Option.getD_some] at this
  rw [← this]
  congr 1
  simp [Addr.add]
  exact fun h => h.symm

theorem grown_set (w : World) (g o : Nat) (v : Value) : w.grownBy (w.setCell ⟨g, o, none⟩ v) (some g) :=
  ⟨rfl, rfl, rfl, by simp, fun k hk hne => by
    have : g ≠ k := fun e => hne (by rw [e])
    simp [World.setCell, Array.getElem?_modify, this]⟩

theorem grown_sets (g : Nat) : ∀ (vs : List Value) (o : Nat) (w : World), w.grownBy (w.setCells g o vs) (some g) ∧ (w.setCells g o vs).heap.size = w.heap.size
  | [], o, w => ⟨⟨rfl, rfl, rfl, Nat.le_refl _, fun _ _ _ => rfl⟩, rfl⟩
  | v :: vs, o, w => by
    have h1 := grown_set w g o v
    obtain ⟨h2, h3⟩ := grown_sets g vs (o + 1) (w.setCell ⟨g, o, none⟩ v)
    have hz : (w.setCell ⟨g, o, none⟩ v).heap.size = w.heap.size := by simp
    rw [hz] at h3
    exact ⟨⟨h2.os.trans h1.os, h2.tape.trans h1.tape, h2.output.trans h1.output, by show _ ≤ (World.setCells _ g (o + 1) vs).heap.size; rw [h3]; exact Nat.le_refl _, fun k hk hne => (h2.block k (by rw [hz]; exact hk) hne).trans (h1.block k hk hne)⟩, h3⟩

theorem cells_str (y : List UInt8) : byteCells (str y) = y.map fun b => Value.int .u8 (b.toNat : Int) := by
  unfold byteCells
  rw [str_data]

theorem getD_app (l y : List UInt8) (i : Nat) : (l ++ y).getD i 0 = if i < l.length then l.getD i 0 else y.getD (i - l.length) 0 := by
  by_cases h : i < l.length
  · rw [if_pos h]
    simp [List.getD, List.getElem?_append, h]
  · rw [if_neg h]
    simp [List.getD, List.getElem?_append, h]

theorem run_append_text {P : Program} {w : World} (t u ty e : TypeId) (i : TypeInfo) (ht : P.underlying t = some (.slice e)) (hu : P.underlying u = some .string) (hi : P.info? e = some i) (hz : i.zero = some (.int .u8 0)) (hsize : i.size = 1) (hby : i.bytes = 1)
    {base g n c : Nat} {l : List UInt8} (hown : TextAt base g n c l w) (y : List UInt8) (m : Nat) (hm : y.length = m) (h63 : n + m ≤ maxLen) (hbytes : n + m ≤ 140737488355328) (hbase : base ≤ w.heap.size) :
    ∃ g' c' w', (Builtin.append_ #[t, u] ty #[.slice (some ⟨g, 0, none⟩) n c, .string (str y)]).run P w = .ok (.slice (some ⟨g', 0, none⟩) (n + m) c') w' ∧ TextAt base g' (n + m) c' (l ++ y) w' ∧ w.grownBy w' (some g) := by
  have hsm : (str y).size = m := by rw [str_size, hm]
  have hsrc : Src P i.size u (.string (str y)) m (byteCells (str y)) w := by
    have := Src.ofString (P := P) w hu (str y)
    rw [hsm] at this
    rw [hsize]
    exact this
  have hnl : (byteCells (str y)).length = m := by rw [byteCells_length, hsm]
  have hlen : (l ++ y).length = n + m := by rw [List.length_append, hown.len, hm]
  have hsmall : n + m ≤ 9223372036854775807 := by simp only [maxLen] at h63; omega
  by_cases hroom : n + m ≤ c
  · have hr := run_append_room_src (P := P) w t u ty e i ht hi g 0 n c (.string (str y)) m (byteCells (str y)) hsrc hroom
      (fun j hj => by rw [hsize, Nat.zero_add, Nat.mul_one]; exact hown.there _ (by omega)) (fun j hj => by rw [hsize, Nat.zero_add, Nat.mul_one]; exact hown.free _ (by omega))
    rw [hsize, Nat.zero_add, Nat.mul_one] at hr
    have hin := World.cell?_setCells_in g (byteCells (str y)) n w (fun j hj => hown.there _ (by omega))
    have hout := World.cell?_setCells_out g (byteCells (str y)) n w
    have hfz := World.frozen?_setCells g (byteCells (str y)) n w
    have hsz : (w.setCells g n (byteCells (str y))).heap.size = w.heap.size := (grown_sets g (byteCells (str y)) n w).2
    refine ⟨g, c, _, hr, ⟨hown.low, by rw [hsz]; exact hown.lt, hlen, hroom, hown.most, fun j hj => ?_, fun j hj => by rw [hfz]; exact hown.free j hj, fun j hj => ?_⟩, ?_⟩
    · by_cases h1 : n ≤ j ∧ j < n + m
      · have := hin (j - n) (by omega)
        rw [show n + (j - n) = j by omega] at this
        rw [this]
        rfl
      · rw [hout ⟨g, j, none⟩ (fun _ _ => by simp only; omega)]
        exact hown.there j hj
    · rw [getD_app, hown.len]
      by_cases h1 : j < n
      · rw [if_pos h1, hout ⟨g, j, none⟩ (fun _ _ => .inl h1)]
        exact hown.at_ j h1
      · rw [if_neg h1]
        have := hin (j - n) (by omega)
        rw [show n + (j - n) = j by omega] at this
        rw [this]
        simp only [cells_str, List.getElem_map]
        have hj2 : j - n < y.length := by omega
        simp [List.getD, hj2]
    · exact (grown_sets g _ n w).1
  · have holds : ∀ j u, (l.map fun b => Value.int .u8 (b.toNat : Int))[j]? = some u → w.cell? ((⟨g, 0, none⟩ : Addr).add j) = some u := fun j u hu' => by
      rw [List.getElem?_map] at hu'
      cases hj : l[j]? with
      | none => rw [hj] at hu'; cases hu'
      | some b =>
        rw [hj] at hu'
        simp only [Option.map_some, Option.some.injEq] at hu'
        obtain ⟨hjl, e1⟩ := List.getElem?_eq_some_iff.1 hj
        have := hown.at_ j (by rw [← hown.len]; exact hjl)
        rw [show (⟨g, 0, none⟩ : Addr).add j = ⟨g, j, none⟩ by unfold Addr.add; split <;> simp_all, this, ← hu']
        simp [List.getD, hjl, e1]
    have hfo := run_firstCells_some (P := P) w.drew i.size n ⟨g, 0, none⟩ n c (l.map fun b => Value.int .u8 (b.toNat : Int)) (by rw [hsize, List.length_map, hown.len, Nat.mul_one]) (by simpa using holds)
    have hr := run_append_grow_src (P := P) w t u ty e i (.int .u8 0) ht hi hz (some ⟨g, 0, none⟩) n c _ hfo (.string (str y)) m (byteCells (str y)) hsrc (by omega) (by omega) (by rw [hby]; exact growslice_fits (by omega) (by omega))
    have hge := grownCap_ge w (n + m) c e
    have hcm : grownCap w (n + m) c e ≤ maxLen := grownCap_le_maxLen w (n + m) c e h63
    rw [cells_str, ← List.map_append] at hr
    obtain ⟨cur, hcur⟩ : ∃ cur, ((l ++ y).map fun b => Value.int .u8 (b.toNat : Int)).toArray ++ Builtin.zeroCells (Value.int .u8 0).cells (grownCap w (n + m) c e - (n + m)) = cur := ⟨_, rfl⟩
    rw [hcur] at hr
    have hcs : cur.size = grownCap w (n + m) c e := by
      have hz1 : (Value.int IntKind.u8 0).cells.size = 1 := rfl
      rw [← hcur]
      simp only [Array.size_append, List.size_toArray, size_zeroCells, hz1, List.length_map, hlen]
      omega
    have hgn : (w.drew.alloc (.cells cur e)).heap[w.heap.size]? = some (.cells cur e) := heap_alloc_new w.drew _
    refine ⟨_, _, _, hr, ⟨hbase, by simp, hlen, hge, hcm, fun j hj => ?_, fun j hj => ?_, fun j hj => ?_⟩, ⟨rfl, rfl, rfl, by simp, fun k hk _ => (Below.heap_alloc w.drew _ k hk)⟩⟩
    · rw [cell_of_row _ _ _ _ _ _ hgn, Array.getElem?_eq_getElem (by omega)]
      rfl
    · simp only [World.frozen?, hgn]
      simp
    · rw [cell_of_row _ _ _ _ _ _ hgn, ← hcur, Array.getElem?_append_left (by simp only [List.size_toArray, List.length_map]; omega)]
      have hj2 : j < (l ++ y).length := by omega
      simp only [List.getElem?_toArray, List.getElem?_map, List.getElem?_eq_getElem hj2, Option.map_some, List.getD, Option.getD_some]

theorem wpList_append_text {P : Program} {w : World} {ops : Array Oper} {rest : List Oper} {o : Oper} {a : Act} {Q : Exit → Act → World → Prop} (hgd : o.guard = none) (sl x : Operand) (t u : TypeId)
    (ho : o.op = .call { callee := .builtin .append, args := #[sl, x], argTypes := #[t, u] })
    (e : TypeId) (i : TypeInfo) (ht : P.underlying t = some (.slice e)) (hu : P.underlying u = some .string) (hi : P.info? e = some i) (hz : i.zero = some (.int .u8 0)) (hsize : i.size = 1) (hby : i.bytes = 1)
    {base g n c : Nat} {l : List UInt8} (hown : TextAt base g n c l w) (hs : a.eval sl = .slice (some ⟨g, 0, none⟩) n c) (y : List UInt8) (m : Nat) (hm : y.length = m) (hx : a.eval x = .string (str y)) (h63 : n + m ≤ maxLen) (hbytes : n + m ≤ 140737488355328) (hbase : base ≤ w.heap.size)
    (h : ∀ g' c' w', TextAt base g' (n + m) c' (l ++ y) w' → w.grownBy w' (some g) → wpList P ops Q rest (a.put o.dst (.slice (some ⟨g', 0, none⟩) (n + m) c')) w') : wpList P ops Q (o :: rest) a w := by
  refine wpList_plain hgd fun K hK => ?_
  obtain ⟨g', c', w', hr, h2, h3⟩ := run_append_text (P := P) t u o.type e i ht hu hi hz hsize hby hown y m hm h63 hbytes hbase
  unfold Oper.wp execOp
  simp only [ho, resolve, invoke, builtin, Sem.run_bind, Sem.run_pure, Result.andThen_ok, List.map_toArray, List.map_cons, List.map_nil, hs, hx, hr]
  exact hK _ _ (h g' c' w' h2 h3)
end Go.Proofs.YtjcilpedpimdcaaDoor

/- Contracts of layer 12: the text of a pair and its attributes, left off where it is too long. -/
namespace Go.Proofs.YtjcilpedpimdcaaDoor
open Go.RowKit
set_option linter.unusedVariables false

theorem infoByte : (Tryd.prog.info? 5).map (fun i => (i.zero, i.size, i.bytes)) = some (some (.int .u8 0), 1, 1) := by kernel_rfl

theorem ObjAt.grown {w w' : World} {b g : Nat} {vs : List Value} (h : ObjAt w b vs) (hg : w.grownBy w' (some g)) (hne : b ≠ g) : ObjAt w' b vs := by
  have hlt := h.lt
  obtain ⟨e, h⟩ := h.heap
  exact ⟨e, (hg.block b hlt (fun e => hne (by cases e; rfl))).trans h⟩

end Go.Proofs.YtjcilpedpimdcaaDoor

/- Contracts of layer 12: Parse. -/
namespace Go.Proofs.YtjcilpedpimdcaaDoor
open Go.RowKit
set_option linter.unusedVariables false

theorem infoHeadPair : (Tryd.prog.info? 39).map (fun i => (i.zero, i.size, i.bytes)) = some (some (.agg #[.string ⟨#[]⟩, .string ⟨#[]⟩]), 2, 32) := by kernel_rfl

theorem Reads.setOther {w : World} {g o : Nat} {xs : List Value} (h : Reads w (some ⟨g, o, none⟩) xs) {p : Addr} (hne : p.block ≠ g) (u : Value) : Reads (w.setCell p u) (some ⟨g, o, none⟩) xs := fun i v hv => by
  obtain ⟨b, off, e, hc⟩ := h i v hv
  cases e
  exact ⟨g, o, rfl, (World.cell?_of_block (heap_setCell_other w p g u (Ne.symm hne))).trans hc⟩

theorem trim_len (l : List UInt8) : (trimL l).length ≤ l.length := by
  unfold trimL
  simp
  omega

theorem trim_nil : trimL ([] : List UInt8) = [] := by rfl

theorem pair_cut (x : List UInt8) : pairL x = (trimL (cutL x 61).1, trimL (cutL x 61).2.1) := by
  unfold pairL cutL
  by_cases h : x.findIdx (· == 61) = x.length
  · rw [if_pos h, if_pos h, trim_nil]
  · rw [if_neg h, if_neg h]

theorem cut_is (x : List UInt8) : (cutL x 61).2.2 = false ↔ x.findIdx (· == 61) = x.length := by
  unfold cutL
  by_cases h : x.findIdx (· == 61) = x.length
  · rw [if_pos h]; simp [h]
  · rw [if_neg h]; simp [h]

theorem cut_len (x : List UInt8) : (cutL x 61).1.length ≤ x.length ∧ (cutL x 61).2.1.length ≤ x.length := by
  unfold cutL
  by_cases h : x.findIdx (· == 61) = x.length
  · rw [if_pos h]; simp
  · rw [if_neg h]; simp; omega

/-- What a header is, by its first part's cut. -/
theorem parse_first {s : List UInt8} (h1 : s.length ≤ 4096) (h2 : s.any ctl = false) :
    let c := cutL ((splitL s 59).getD 0 []) 61
    (c.2.2 = false ∨ trimL c.1 = [] → parseH s = (([], []), [], 1)) ∧
    (c.2.2 = true → trimL c.1 ≠ [] → 256 < (trimL c.1).length ∨ 1024 < (trimL c.2.1).length → parseH s = (([], []), [], 3)) ∧
    (c.2.2 = true → trimL c.1 ≠ [] → (trimL c.1).length ≤ 256 → (trimL c.2.1).length ≤ 1024 → parseH s = ((trimL c.1, trimL c.2.1), ((splitL s 59).drop 1).map pairL, 0)) := by
  intro c
  have hp := pair_cut ((splitL s 59).getD 0 [])
  have hi := cut_is ((splitL s 59).getD 0 [])
  have e : parseH s = if ((splitL s 59).getD 0 []).findIdx (· == 61) = ((splitL s 59).getD 0 []).length ∨ (pairL ((splitL s 59).getD 0 [])).1 = [] then (([], []), [], 1)
    else if 256 < (pairL ((splitL s 59).getD 0 [])).1.length ∨ 1024 < (pairL ((splitL s 59).getD 0 [])).2.length then (([], []), [], 3)
    else (pairL ((splitL s 59).getD 0 []), ((splitL s 59).drop 1).map pairL, 0) := by
    unfold parseH
    rw [if_neg (by omega), if_neg (by rw [h2]; decide)]
  rw [e, hp]
  refine ⟨fun h => ?_, fun ht hn h => ?_, fun ht hn h3 h4 => ?_⟩
  · rw [if_pos (h.imp hi.1 id)]
  · rw [if_neg (fun h' => h'.elim (fun h' => by have := hi.2 h'; rw [show (cutL _ 61).2.2 = true from ht] at this; cases this) hn), if_pos h]
  · rw [if_neg (fun h' => h'.elim (fun h' => by have := hi.2 h'; rw [show (cutL _ 61).2.2 = true from ht] at this; cases this) hn), if_neg (fun h' => h'.elim (fun h' => absurd h' (Nat.not_lt.2 h3)) (fun h' => absurd h' (Nat.not_lt.2 h4)))]

end Go.Proofs.YtjcilpedpimdcaaDoor

/- Contracts of layer 12: slices.Equal at pairs. -/
namespace Go.Proofs.YtjcilpedpimdcaaDoor
open Go.RowKit
set_option linter.unusedVariables false

theorem eqHeadPair (a b c d : List UInt8) (w : World) : Sem.run Tryd.prog (Op.equalIn 10000 39 (.agg #[.string (str a), .string (str b)]) (.agg #[.string (str c), .string (str d)])) w = Result.ok (a == c && b == d) w := by
  have hk := str_toList
  cases h1 : a == c <;> cases h2 : b == d <;> simp [go_sem, hk, h1, h2]

end Go.Proofs.YtjcilpedpimdcaaDoor

/- Contracts of layer 12: Print. -/
namespace Go.Proofs.YtjcilpedpimdcaaDoor
open Go.RowKit
set_option linter.unusedVariables false

end Go.Proofs.YtjcilpedpimdcaaDoor

/- Contracts of layer 12: slices.Backward at pairs: its rounds. -/
namespace Go.Proofs.YtjcilpedpimdcaaDoor
open Go.RowKit Go.Shelf
set_option linter.unusedVariables false
attribute [local go_sem] Oper.semAt_some

abbrev PX := { x : Nat × (List UInt8 × List UInt8) // x.2.1.length ≤ 100000 }
def pairX (x : PX) : List UInt8 × List UInt8 := x.1.2

end Go.Proofs.YtjcilpedpimdcaaDoor

/- Contracts of layer 12: Find. -/
namespace Go.Proofs.YtjcilpedpimdcaaDoor
open Go.RowKit Go.Shelf
set_option linter.unusedVariables false
attribute [local go_sem] Oper.semAt_some

theorem boxed_below {W W' : World} {B K : Nat} {t : TypeId} {v : Value} (h : Boxed W B t v) (hb : Below K W W') (hlt : B < K) : Boxed W' B t v := (hb.block B hlt).trans h

theorem keeps_below {W W' : World} (h : Below W.heap.size W W') (B : Nat) : KeepsFrom B W W' :=
  ⟨h.size, fun i o _ hi _ => (h.block i (Array.getElem?_eq_some_iff.1 hi).1).trans hi⟩

theorem below_undrew {W W' : World} (h : Below W.drew.heap.size W.drew W') : Below W.heap.size W W' := ⟨h.os, h.tape, h.output, h.size, h.block⟩

theorem find_none_all {L : List (List UInt8 × List UInt8)} {name : List UInt8} (h : ∀ x ∈ L, (x.1.map low == name.map low) = false) : ∀ a, L.foldl (fun a x => if (x.1.map low == name.map low) = true then (x.2, true) else a) a = a := by
  induction L with
  | nil => intro a; rfl
  | cons x r ih =>
    intro a
    rw [List.foldl_cons, if_neg (by rw [h x List.mem_cons_self]; decide)]
    exact ih (fun y hy => h y (List.mem_cons_of_mem _ hy)) a

/-- The first one from behind is the last one. -/
theorem find_back {L : List (List UInt8 × List UInt8)} {name : List UInt8} {pre : List (List UInt8 × List UInt8)} {x : List UInt8 × List UInt8} {k : Nat} (h : pre ++ [x] = L.reverse.take k) (hn : ∀ y ∈ pre, (y.1.map low == name.map low) = false) (hx : (x.1.map low == name.map low) = true) : findH L name = (x.2, true) := by
  have e : L = (L.reverse.drop k).reverse ++ x :: pre.reverse := by
    have h1 := congrArg List.reverse (List.take_append_drop k L.reverse)
    rw [← h, List.reverse_reverse] at h1
    simpa using h1.symm
  rw [e]
  unfold findH
  rw [List.foldl_append, List.foldl_cons, if_pos hx]
  exact find_none_all (fun y hy => hn y (List.mem_reverse.1 hy)) _

theorem find_nothing {L : List (List UInt8 × List UInt8)} {name : List UInt8} (hn : ∀ y ∈ L.reverse, (y.1.map low == name.map low) = false) : findH L name = ([], false) :=
  find_none_all (fun y hy => hn y (List.mem_reverse.2 hy)) _

end Go.Proofs.YtjcilpedpimdcaaDoor

/- Contracts of layer 12: Parse, Find, Print. -/
namespace Go.Proofs.YtjcilpedpimdcaaDoor
end Go.Proofs.YtjcilpedpimdcaaDoor

/- Layer 12's laws: attributes there and back, light ones, the example. -/
namespace Go.Proofs.YtjcilpedpimdcaaDoor
open Go.RowKit
set_option linter.unusedVariables false

theorem infoPair : (Tryd.prog.info? 39).map (fun i => (i.zero, i.size, i.bytes)) = some (some (.agg #[.string ⟨#[]⟩, .string ⟨#[]⟩]), 2, 32) := by kernel_rfl

theorem eqPair (a b c d : List UInt8) (w : World) : Sem.run Tryd.prog (Op.equalIn 10000 39 (.agg #[.string (str a), .string (str b)]) (.agg #[.string (str c), .string (str d)])) w = Result.ok (a == c && b == d) w := by
  have hk := str_toList
  cases h1 : a == c <;> cases h2 : b == d <;> simp [go_sem, hk, h1, h2]

theorem take_snoc' {α : Type} {L : List α} {k : Nat} {x : α} (h : L[k]? = some x) : L.take (k + 1) = L.take k ++ [x] := by
  obtain ⟨hk, rfl⟩ := List.getElem?_eq_some_iff.1 h
  exact List.take_succ_eq_append_getElem hk

set_option maxRecDepth 100000 in
theorem ownC (a : Option Addr) (n c : Nat) (L : List (List UInt8 × List UInt8)) (w : World) (hL : RowOf encP 2 w a n c L) (hn : n ≤ 100000) :
    Calls Tryd.prog 10 #[.slice a n c] w (GivesZ encP 2 39 L n w) := by
  have HL := Lib.hid hL
  have Hn : Hid (L.length = n) := hL.leq
  have hcm := hL.capm
  have hcl := hL.cle
  unfold maxLen at hcm
  obtain ⟨i0, hi, hz0, hz1, hz2⟩ := info_parts infoPair
  have hown0 := OwnZ.lit encP 2 39 w
  have hbel0 := below_alloc w (.cells #[] 39)
  unfold GivesZ
  clear hL
  go_enter Tryd.func10, Tryd.ntmps10
  go_wp2
  go_loopw [3, 4] (fun l i wr => ∃ (k : Nat) (b : Option Addr) (C : Nat), k ≤ n ∧ l = .slice b k C ∧ i = .int .i64 (k : Int) ∧ OwnZ encP 2 w.heap.size 39 b k C (L.take k) wr ∧ Below w.heap.size w wr) (fun _ i _ => n - (intOf i).toNat)
  case atStart => exact ⟨0, _, _, Nat.zero_le _, rfl, rfl, hown0, hbel0⟩
  case round =>
    clear hown0 hbel0
    obtain ⟨k, b, C, hk, rfl, rfl, hO, hB⟩ := hrel
    have hbs := hB.size
    by_cases hlt : k < n
    · have hlt' : (k : Int) < (n : Int) := by omega
      obtain ⟨x1, x2, g, off, hx, rfl, c0, c1⟩ := pair_at (HL.out.below hB) k hlt
      have hst := Lib.hid (take_snoc' hx)
      clear hx
      go_wp2_with (at_builtin; refine wpList_append_row1 encP_len (by decide) encP_one rfl (.tmp 12) (.tmp 17) 29 rfl 39 i0 (.agg #[.string ⟨#[]⟩, .string ⟨#[]⟩]) 32 Tryd.underlying29 hi hz0 hz1 hz2 rfl hO rfl (x1, x2) rfl rfl (k + 1) rfl (by unfold maxLen; omega) (by omega) hbs ?_; intro a2 c2 w7 hO7 hb7 hg7 ha7)
      go_roundw
      case rel => exact ⟨k + 1, a2, c2, by omega, rfl, by go_num, by rw [hst.out]; exact hO7, hB.trans hb7⟩
      case measure => simp [intOf]; omega
    · obtain rfl : k = n := by omega
      have e : Hid (L.take k = L) := by unfold Hid; rw [List.take_of_length_le (by rw [Hn.out]; exact Nat.le_refl _)]
      rw [e.out] at hO
      go_wp2
      go_ret
      exact ⟨b, C, rfl, hO, hB⟩

/-- Attributes are few and short. -/
def lightP (L : List (List UInt8 × List UInt8)) : Bool := decide (L.length ≤ 40) && L.all fun x => decide (x.1.length ≤ 300) && decide (x.2.length ≤ 1100)

end Go.Proofs.YtjcilpedpimdcaaDoor

/- How pairs of texts as arguments are opened. -/
namespace Go.Proofs.YtjcilpedpimdcaaDoor
open Go.ChangeShapes Go.WideShapes Go.ChangeAt Go.RowKit
set_option linter.unusedVariables false

theorem leaves_two {cs : List Value} (h : leavesOk [.text, .text] cs) : ∃ x : List UInt8 × List UInt8, cs = encP x ∧ x.1.length ≤ maxLen ∧ x.2.length ≤ maxLen := by
  match cs, h with
  | [v0, v1], h =>
    obtain ⟨⟨a, rfl, ha⟩, ⟨b, rfl, hb⟩, -⟩ := h
    exact ⟨(a, b), rfl, ha, hb⟩

theorem open_pairs {H : Type} {enc : TypeId × Value → H} {w : World} {r : Reach} {b0 : Nat} {v : Value} {d : DataW H} {p : List MemPlace} (hv : Value.okWide Tryd.prog w r b0 22 v) (h : DataW.Trod enc Tryd.prog w 0 (fun _ => true) true 22 v d p) :
    ∃ a len cap, ∃ Q : List (List UInt8 × List UInt8), v = .slice a len cap ∧ RowOf encP 2 w a len cap Q ∧ ∀ x ∈ Q, x.1.length ≤ maxLen ∧ x.2.length ≤ maxLen :=
  open_rows_of encP (fun x => x.1.length ≤ maxLen ∧ x.2.length ≤ maxLen) 2 3 [.text, .text] Tryd.underlying22 (by kernel_rfl) (by decide) (by kernel_rfl) (fun cs h => leaves_two h) hv h

theorem open_pair {H : Type} {enc : TypeId × Value → H} {w : World} {r : Reach} {b0 : Nat} {v : Value} {d : DataW H} {p : List MemPlace} (hv : Value.okWide Tryd.prog w r b0 38 v) (h : DataW.Trod enc Tryd.prog w 0 (fun _ => true) true 38 v d p) :
    ∃ a b : List UInt8, v = .agg #[.string (str a), .string (str b)] ∧ (str a).size ≤ maxLen ∧ (str b).size ≤ maxLen := by
  obtain ⟨cs, rfl, hl⟩ := open_flat 3 [.text, .text] Tryd.underlying38 (by kernel_rfl) hv h
  obtain ⟨⟨a, b⟩, h1, h2, h3⟩ := leaves_two hl
  refine ⟨a, b, ?_, by rw [str_size]; exact h2, by rw [str_size]; exact h3⟩
  have : cs = #[.string (str a), .string (str b)] := Array.toList_inj.mp h1
  rw [this]
end Go.Proofs.YtjcilpedpimdcaaDoor

/- A package's table of strings, as a row lists it. No program in it. -/
namespace Go.Proofs.YtjcilpedpimdcaaDoor
open Go.RowKit
set_option linter.unusedVariables false

/-- The table as a row lists it. -/
def strData {H : Type} (L : List (List UInt8)) : DataW H := .agg (L.map fun l => .lit (.string l))
/-- The variable holds just these strings. -/
def TabStr (P : Program) (w : World) (name : String) (L : List (List UInt8)) : Prop := w.var? P name = some (L.map fun l => Value.string (str l)).toArray

theorem strs_of_tab {H : Type} {enc : TypeId × Value → H} {P : Program} {w : World} {base : Nat} {sp : Nat → Bool} {held : Bool} {fuel : Nat} {t e : TypeId} {n : Nat} {cs : List Value} {L : List (List UInt8)} {p : List MemPlace}
    (ht : P.underlying t = some (.array n e)) (he : P.underlying e = some .string) (hce : P.cellsOf e = 1) (hct : P.cellsOf t = n)
    (h : DataW.trod enc P w base sp held fuel t cs = some (strData L, p)) : cs = L.map fun l => Value.string (str l) := by
  cases fuel with
  | zero => simp [DataW.trod] at h
  | succ fuel =>
    simp only [DataW.trod, ht, hce, hct, Nat.mul_one] at h
    split at h
    · rename_i hl
      obtain ⟨xs, hm, hx⟩ := Option.map_eq_some_iff.1 h
      have hxs : xs.map (·.1) = L.map fun l => (DataW.lit (.string l) : DataW H) := by
        have := congrArg Prod.fst hx
        simpa [strData] using this
      have hxl : xs.length = n := by simpa using Lib.mapM_length hm
      have hzl : L.length = n := by
        have := congrArg List.length hxs
        simp at this
        omega
      apply List.ext_getElem?
      intro i
      by_cases hi : i < n
      · obtain ⟨b, hb, hf⟩ := Lib.mapM_at hm i i (by simp [hi])
        obtain ⟨s, hc, rfl, _⟩ := DataW.trod_string he hf
        have h1 : cs[i]? = some (.string s) := by
          have := congrArg (·[0]?) hc
          simpa [List.getElem?_take, List.getElem?_drop] using this
        have h2 : (xs.map (·.1))[i]? = some (DataW.lit (.string s.data.toList) : DataW H) := by simp [hb]
        rw [hxs] at h2
        simp only [List.getElem?_map, Option.map_eq_some_iff, DataW.lit.injEq, Lit.string.injEq] at h2
        obtain ⟨l, hl', hls⟩ := h2
        subst hls
        have e : str s.data.toList = s := (str_of s).symm
        simp [h1, hl', e]
      · rw [List.getElem?_eq_none (by omega), List.getElem?_eq_none (by simp; omega)]
    · cases h

theorem tabStr_of_head {P : Program} {W : World} {name : String} {L : List (List UInt8)} {rest : List (String × DataW Unit)} {g : Nat} {t e : TypeId} {n : Nat}
    (hg : P.globalNamed name = some g) (hty : (P.globals[g]?).map (·.type) = some t) (ht : P.underlying t = some (.array n e)) (he : P.underlying e = some .string) (hce : P.cellsOf e = 1) (hct : P.cellsOf t = n)
    (h : laidMet P ((name, strData L) :: rest) W) : TabStr P W name L := by
  obtain ⟨ps, ⟨g', t', cs, fuel, p, q, hg', ht', hvar, hd, _, _⟩, _⟩ := h
  obtain rfl := Option.some.inj (hg.symm.trans hg')
  obtain rfl := Option.some.inj (hty.symm.trans ht')
  unfold TabStr
  rw [hvar, ← strs_of_tab ht he hce hct hd]

theorem TabStr.cell {P : Program} {W : World} {name : String} {L : List (List UInt8)} {g : Nat} (h : TabStr P W name L) (hg : P.globalNamed name = some g) (i : Nat) (hi : i < L.length) :
    W.cell? ⟨g, i, none⟩ = some (.string (str (L.getD i []))) := by
  have := World.var?_cell hg h i
  simpa [List.getD, hi] using this
end Go.Proofs.YtjcilpedpimdcaaDoor

/- The tables that the rows list: what the list gives; a world that holds them. -/
namespace Go.Proofs.YtjcilpedpimdcaaDoor
open Go.ChangeShapes Go.WideShapes Go.ChangeAt Go.RowKit
set_option linter.unusedVariables false

theorem laid_tail {P : Program} {x : String × DataW Unit} {rest : List (String × DataW Unit)} {W : World} (h : laidMet P (x :: rest) W) : laidMet P rest W := by
  obtain ⟨ps, hv, hn, hr⟩ := h
  obtain ⟨n, d⟩ := x
  obtain ⟨g, t, cs, fuel, p, q, _, _, _, _, hq, rfl⟩ := hv
  exact ⟨q, hq, (List.nodup_append.1 hn).2.1, fun b off hb => hr b off (List.mem_append_right _ hb)⟩

def vals0 : List (List UInt8) := [[74, 97, 110], [70, 101, 98], [77, 97, 114], [65, 112, 114], [77, 97, 121], [74, 117, 110], [74, 117, 108], [65, 117, 103], [83, 101, 112], [79, 99, 116], [78, 111, 118], [68, 101, 99]]
theorem gTab0 : Tryd.prog.globalNamed "biscotti/date.months" = some 0 := by kernel_rfl
theorem gTabType0 : (Tryd.prog.globals[0]?).map (·.type) = some 80 := by kernel_rfl
theorem tab0 {W : World} (h : laidMetH Tryd.prog [("biscotti/date.months", Rows.laid_biscotti_date_months), ("biscotti/date.lengths", Rows.laid_biscotti_date_lengths)] W) : TabStr Tryd.prog W "biscotti/date.months" vals0 :=
  tabStr_of_head gTab0 gTabType0 Tryd.underlying80 Tryd.underlying9 (by kernel_rfl) (by kernel_rfl) h

def vals1 : List Int := [31, 28, 31, 30, 31, 30, 31, 31, 30, 31, 30, 31]
theorem gTab1 : Tryd.prog.globalNamed "biscotti/date.lengths" = some 1 := by kernel_rfl
theorem gTabType1 : (Tryd.prog.globals[1]?).map (·.type) = some 81 := by kernel_rfl
theorem tab1 {W : World} (h : laidMetH Tryd.prog [("biscotti/date.months", Rows.laid_biscotti_date_months), ("biscotti/date.lengths", Rows.laid_biscotti_date_lengths)] W) : Lib.TabIs Tryd.prog W "biscotti/date.lengths" .i64 vals1 :=
  Lib.tabIs_of_head gTab1 gTabType1 Tryd.underlying81 Tryd.underlying3 (by kernel_rfl) (by kernel_rfl) (laid_tail h)

theorem gives_of {W : World} (hS : W.ShapedOpen Tryd.prog) (h : laidMetH Tryd.prog [("biscotti/date.months", Rows.laid_biscotti_date_months), ("biscotti/date.lengths", Rows.laid_biscotti_date_lengths)] W) : DTab W :=
  (show DTab W from by
    refine ⟨fun i hi => ?_, fun i hi => ?_, fun g hg => absurd hg (by rw [show Tryd.prog.globalNamed "biscotti/date.weekdays" = none by kernel_rfl]; simp)⟩
    · exact (tab1 h).cell gTab1 i hi
    · exact (tab0 h).cell gTab0 i hi)

noncomputable def laidWorld (os : Os) : World :=
  { World.holding Tryd.prog os ⟨#[], #[], []⟩ with heap := (((World.holding Tryd.prog os ⟨#[], #[], []⟩).heap.modify 0 fun
      | .cells _ t frozen => .cells (vals0.map (fun l => Value.string (str l))).toArray t frozen
      | o => o).modify 1 fun
      | .cells _ t frozen => .cells (vals1.map (Value.int .i64)).toArray t frozen
      | o => o) }
end Go.Proofs.YtjcilpedpimdcaaDoor
