/- Contracts and plain words that the laws' proofs stand on. -/
import Derived.Test.YtaodjnkjjmhecaaGreatDoorLibAQ
import Derived.Test.YtaodjnkjjmhecaaGreatDoorLibAH
import Derived.Test.YtaodjnkjjmhecaaGreatDoorLibAM
import Derived.Test.YtaodjnkjjmhecaaGreatDoorLibBJ
import Derived.Test.YtaodjnkjjmhecaaGreatDoorLibBN
namespace Go.Proofs.YtaodjnkjjmhecaaGreatDoor
open Go.RowKit
set_option linter.unusedVariables false
theorem covers_drop {L M : List DotN} {k : Nat} {y : DotN} (h : M[k]? = some y) : coversV L (M.drop k) = (decide (y.seq ≤ getV L y.dev y.inc) && coversV L (M.drop (k + 1))) := by
  obtain ⟨hk, rfl⟩ := List.getElem?_eq_some_iff.1 h
  rw [List.drop_eq_getElem_cons hk]
  rfl
set_option maxHeartbeats 1000000 in
set_option maxRecDepth 100000 in
theorem refCoversVC (a b : Option Addr) (n m c1 c2 : Nat) (L M : List DotN) (w : World) (hL : RowOf encD 3 w a n c1 L) (hM : RowOf encD 3 w b m c2 M) :
    Calls Tryz.prog 58 #[.slice a n c1, .slice b m c2] w fun e w' => e = .returned (.bool (coversV L M)) ∧ Below w.heap.size w w' := by
  have hcm := hM.capm
  have hcl := hM.cle
  have hleq := hM.leq
  unfold maxLen at hcm
  have HL := Lib.hid hL
  have HM := Lib.hid hM
  have Hm := Lib.hid hleq
  have hb0 := Below.refl w.heap.size w
  clear hL hM hleq
  go_enter Tryz.func58, Tryz.ntmps58
  go_wp2
  go_loopw [5] (fun i wr => ∃ k : Nat, k ≤ m ∧ i = .int .i64 (k : Int) ∧ Hid (coversV L M = coversV L (M.drop k)) ∧ Below w.heap.size w wr) (fun i _ => m - (intOf i).toNat)
  case atStart => exact ⟨0, Nat.zero_le _, rfl, rfl, hb0⟩
  case round =>
    clear hb0
    obtain ⟨k, hk, rfl, hs, hb⟩ := hrel
    by_cases hlt : k < m
    · have hlt' : (k : Int) < (m : Int) := by omega
      have g1' : decide ((k : Int) < (m : Int)) = true := decide_eq_true hlt'
      have i1 : (0 : Int) ≤ (k : Int) := by omega
      obtain ⟨y, g, off, hy, rfl, d0, d1, d2⟩ := dot_at (HM.out.below hb) k hlt
      have hd := covers_drop (L := L) hy
      have HG := fun v h => refGetVC a n c1 L y v h
      have hS0 : ∀ w', Below wr.heap.size wr w' → w'.cell? ⟨g, off + k * 3, none⟩ = some (.int .i64 y.dev) ∧ w'.cell? ⟨g, off + k * 3 + 1, none⟩ = some (.int .i64 y.inc) ∧ w'.cell? ⟨g, off + k * 3 + 2, none⟩ = some (.int .i64 y.seq) := fun w' h => by
        obtain ⟨y', g', off', e1, e2, e3⟩ := dot_at (HM.out.below (hb.trans (h.mono hb.size))) k hlt
        rw [hy] at e1
        cases e1
        cases e2
        exact e3
      have hB1 : Below wr.heap.size wr wr.drew := (Below.refl _ wr).drew
      have HD := Lib.hid hd
      clear hd hy
      generalize getV L y.dev y.inc = gv at *
      by_cases hg : gv < y.seq
      · have e : Hid (coversV L M = false) := by unfold Hid; rw [hs.out, HD.out, decide_eq_false (by omega)]; rfl
        clear hs HD
        go_wp2_with fail
        go_region_held3 (fun w' => w'.cell? ⟨g, off + k * 3, none⟩ = some (.int .i64 y.dev) ∧ w'.cell? ⟨g, off + k * 3 + 1, none⟩ = some (.int .i64 y.inc) ∧ w'.cell? ⟨g, off + k * 3 + 2, none⟩ = some (.int .i64 y.seq))
          (first | exact hS0 _ hB1)
          (first
            | (go_at_call 63; (with_reducible refine (HG _ (HL.out.below (hb.trans (hB1.mono hb.size)))).mono ?_); rintro e w3 ⟨rfl, hx⟩; have hB1 := hB1.trans (hx.mono hB1.size); clear hx))
        all_goals (
          go_wp2
          go_ret
          exact ⟨by rw [e.out]; rfl, hb.trans (hB1.mono hb.size)⟩)
      · have e : Hid (coversV L M = coversV L (M.drop (k + 1))) := by unfold Hid; rw [hs.out, HD.out, decide_eq_true (by omega)]; rfl
        clear hs HD
        go_wp2_with fail
        go_region_held3 (fun w' => w'.cell? ⟨g, off + k * 3, none⟩ = some (.int .i64 y.dev) ∧ w'.cell? ⟨g, off + k * 3 + 1, none⟩ = some (.int .i64 y.inc) ∧ w'.cell? ⟨g, off + k * 3 + 2, none⟩ = some (.int .i64 y.seq))
          (first | exact hS0 _ hB1)
          (first
            | (go_at_call 63; (with_reducible refine (HG _ (HL.out.below (hb.trans (hB1.mono hb.size)))).mono ?_); rintro e w3 ⟨rfl, hx⟩; have hB1 := hB1.trans (hx.mono hB1.size); clear hx))
        all_goals (
          go_wp2
          go_roundw
          case rel => exact ⟨k + 1, by omega, by go_num, e, hb.trans (hB1.mono hb.size)⟩
          case measure => simp [intOf]; omega)
    · obtain rfl : k = m := by omega
      have e : Hid (coversV L M = true) := by unfold Hid; rw [hs.out, List.drop_of_length_le (by rw [Hm.out]; exact Nat.le_refl _)]; rfl
      go_wp2
      go_ret
      exact ⟨by rw [e.out]; rfl, hb⟩
set_option maxHeartbeats 4000000 in
set_option maxRecDepth 100000 in
theorem refCheckVC (a : Option Addr) (n c : Nat) (L : List DotN) (w : World) (hL : RowOf encD 3 w a n c L) :
    Calls Tryz.prog 54 #[.slice a n c] w fun e w' => e = .returned (.int .i64 (checkV L)) ∧ Below w.heap.size w w' := by
  have hcm := hL.capm
  have hcl := hL.cle
  have hleq := hL.leq
  unfold maxLen at hcm
  have hb0 := Below.refl w.heap.size w
  by_cases h9 : 4096 < n
  · have h9' : (4096 : Int) < (n : Int) := by omega
    have e : checkV L = 3 := by unfold checkV; rw [if_pos (by omega)]
    rw [e]
    go_enter Tryz.func54, Tryz.ntmps54
    go_wp2
    go_ret
    exact ⟨rfl, hb0⟩
  have h9' : ¬ (4096 : Int) < (n : Int) := by omega
  have E : Hid (checkV L = chkF none L) := by unfold Hid checkV; rw [if_neg (by omega)]
  have HL := Lib.hid hL
  have Hn := Lib.hid hleq
  clear hL hleq
  go_enter Tryz.func54, Tryz.ntmps54
  go_wp2
  go_loopw [3] (fun i wr => ∃ k : Nat, k ≤ n ∧ i = .int .i64 (k : Int) ∧ Hid (checkV L = chkF (prevV L k) (L.drop k)) ∧ Below w.heap.size w wr) (fun i _ => n - (intOf i).toNat)
  case atStart => exact ⟨0, Nat.zero_le _, rfl, E, hb0⟩
  case round =>
    clear hb0 E
    obtain ⟨k, hk, rfl, hs, hb⟩ := hrel
    by_cases hlt : k < n
    · have hlt' : (k : Int) < (n : Int) := by omega
      have g1' : decide ((k : Int) < (n : Int)) = true := decide_eq_true hlt'
      have i1 : (0 : Int) ≤ (k : Int) := by omega
      obtain ⟨y, g, off, hy, rfl, d0, d1, d2⟩ := dot_at (HL.out.below hb) k hlt
      have hd := chkF_drop (pr := prevV L k) hy
      have HR := fun v => refDRightC y v
      have hS0 : ∀ w', Below wr.heap.size wr w' → w'.cell? ⟨g, off + k * 3, none⟩ = some (.int .i64 y.dev) ∧ w'.cell? ⟨g, off + k * 3 + 1, none⟩ = some (.int .i64 y.inc) ∧ w'.cell? ⟨g, off + k * 3 + 2, none⟩ = some (.int .i64 y.seq) := fun w' h => by
        obtain ⟨y', g', off', e1, e2, e3⟩ := dot_at (HL.out.below (hb.trans (h.mono hb.size))) k hlt
        rw [hy] at e1
        cases e1
        cases e2
        exact e3
      have hB1 : Below wr.heap.size wr wr.drew := (Below.refl _ wr).drew
      have hpn : prevV L (k + 1) = some y := by unfold prevV; rw [if_neg (Nat.succ_ne_zero k)]; exact hy
      cases hr : rightD y with
      | false =>
        have e : Hid (checkV L = 4) := by unfold Hid; rw [hs.out, hd, if_pos hr]
        simp only [hr] at HR
        clear hd hs hr hpn hy
        go_wp2_with fail
        go_region_held3 (fun w' => w'.cell? ⟨g, off + k * 3, none⟩ = some (.int .i64 y.dev) ∧ w'.cell? ⟨g, off + k * 3 + 1, none⟩ = some (.int .i64 y.inc) ∧ w'.cell? ⟨g, off + k * 3 + 2, none⟩ = some (.int .i64 y.seq))
          (first | exact hS0 _ hB1)
          (first
            | (go_at_call 86; (with_reducible refine (HR _).mono ?_); rintro e w3 ⟨rfl, hx⟩; have hB1 := hB1.trans (hx.mono hB1.size); clear hx))
        all_goals (
          go_wp2
          go_ret
          exact ⟨by rw [e.out]; rfl, hb.trans (hB1.mono hb.size)⟩)
      | true =>
        simp only [hr] at HR
        rw [if_neg (by rw [hr]; exact Bool.noConfusion)] at hd
        rcases Nat.eq_zero_or_pos k with h0 | h0
        · have e : Hid (checkV L = chkF (prevV L (k + 1)) (L.drop (k + 1))) := by
            unfold Hid
            have hp0 : prevV L k = none := by unfold prevV; rw [if_pos h0]
            rw [hs.out, hd, hp0, hpn]
            rfl
          subst h0
          simp only [Nat.zero_mul, Nat.add_zero] at hS0 d0 d1 d2
          clear hd hs hr hpn hy
          go_wp2_with fail
          go_region_held3 (fun w' => w'.cell? ⟨g, off, none⟩ = some (.int .i64 y.dev) ∧ w'.cell? ⟨g, off + 1, none⟩ = some (.int .i64 y.inc) ∧ w'.cell? ⟨g, off + 2, none⟩ = some (.int .i64 y.seq))
            (first | exact hS0 _ hB1)
            (first
              | (go_at_call 86; (with_reducible refine (HR _).mono ?_); rintro e w3 ⟨rfl, hx⟩; have hB1 := hB1.trans (hx.mono hB1.size); clear hx))
          all_goals (
            obtain ⟨f0, f1, f2⟩ := hS0 _ hB1
            go_wp2_with fail
            go_quiet (fail)
            go_wp2
            go_roundw
            case rel => exact ⟨0 + 1, by omega, by go_num, e, drawn_below (hb.trans (hB1.mono hb.size)) _⟩
            case measure => simp [intOf]; omega)
        · obtain ⟨j, hjk⟩ : ∃ j, k = j + 1 := ⟨k - 1, by omega⟩
          obtain ⟨z, g2, off2, hz, hgz, z0, z1, z2⟩ := dot_at (HL.out.below hb) j (by omega)
          cases hgz
          have hS1 : ∀ w', Below wr.heap.size wr w' → w'.cell? ⟨g, off + k * 3, none⟩ = some (.int .i64 y.dev) ∧ w'.cell? ⟨g, off + k * 3 + 1, none⟩ = some (.int .i64 y.inc) ∧ w'.cell? ⟨g, off + k * 3 + 2, none⟩ = some (.int .i64 y.seq) ∧ w'.cell? ⟨g, off + j * 3, none⟩ = some (.int .i64 z.dev) ∧ w'.cell? ⟨g, off + j * 3 + 1, none⟩ = some (.int .i64 z.inc) ∧ w'.cell? ⟨g, off + j * 3 + 2, none⟩ = some (.int .i64 z.seq) := fun w' h => by
            obtain ⟨q0, q1, q2⟩ := hS0 w' h
            obtain ⟨y', g', off', e1, e2, e3⟩ := dot_at (HL.out.below (hb.trans (h.mono hb.size))) j (by omega)
            rw [hz] at e1
            cases e1
            cases e2
            exact ⟨q0, q1, q2, e3⟩
          have HA := fun v => refAheadAC z.dev z.inc y.dev y.inc v
          have hah : aheadA z.dev z.inc y.dev y.inc = aheadD z y := rfl
          rw [hah] at HA
          have hp0 : prevV L k = some z := by unfold prevV; rw [if_neg (by omega), hjk]; exact hz
          rw [hp0] at hd
          have hg1 : (0 : Int) < (k : Int) := by omega
          have hg0 : decide ((0 : Int) < (k : Int)) = true := decide_eq_true hg1
          have hj1 : (k : Int) - 1 = (j : Int) := by omega
          have hj4 : wrap64 ((k : Int) - 1) = (j : Int) := by rw [hj1]; unfold wrap64; omega
          have hj2 : IntKind.i64.wrap ((k : Int) - 1) = (j : Int) := by rw [hj1, IntKind.wrap_i64]; omega
          have hj5 : IntKind.i64.wrap (j : Int) = (j : Int) := by rw [IntKind.wrap_i64]; omega
          have hj3 : (j : Int) < (n : Int) := by omega
          have hj0 : (0 : Int) ≤ (j : Int) := by omega
          cases hb2 : aheadD z y with
          | false =>
            have e : Hid (checkV L = 6) := by unfold Hid; rw [hs.out, hp0, hd, Option.map_some, hb2, if_pos rfl]
            simp only [hb2] at HA
            clear hd hs hr hpn hy hz hp0 hb2 hah hjk
            have hg2 : decide (0 < k) = true := decide_eq_true h0
            go_wp2_with fail
            go_region_held3 (fun w' => w'.cell? ⟨g, off + k * 3, none⟩ = some (.int .i64 y.dev) ∧ w'.cell? ⟨g, off + k * 3 + 1, none⟩ = some (.int .i64 y.inc) ∧ w'.cell? ⟨g, off + k * 3 + 2, none⟩ = some (.int .i64 y.seq))
              (first | exact hS0 _ hB1)
              (first
                | (go_at_call 86; (with_reducible refine (HR _).mono ?_); rintro e w3 ⟨rfl, hx⟩; have hB1 := hB1.trans (hx.mono hB1.size); clear hx))
            all_goals (
              obtain ⟨f0, f1, f2, f3, f4, f5⟩ := hS1 _ hB1
              go_wp2_with fail
              have hB1 := hB1.drew
              go_region_held3 (fun w' => w'.cell? ⟨g, off + k * 3, none⟩ = some (.int .i64 y.dev) ∧ w'.cell? ⟨g, off + k * 3 + 1, none⟩ = some (.int .i64 y.inc) ∧ w'.cell? ⟨g, off + k * 3 + 2, none⟩ = some (.int .i64 y.seq) ∧ w'.cell? ⟨g, off + j * 3, none⟩ = some (.int .i64 z.dev) ∧ w'.cell? ⟨g, off + j * 3 + 1, none⟩ = some (.int .i64 z.inc) ∧ w'.cell? ⟨g, off + j * 3 + 2, none⟩ = some (.int .i64 z.seq))
                (first | exact hS1 _ hB1)
                (first
                  | (go_at_call 102; (with_reducible refine (HA _).mono ?_); rintro e w4 ⟨rfl, hx⟩; have hB1 := hB1.trans (hx.mono hB1.size); clear hx))
              all_goals (
                go_wp2
                go_ret
                exact ⟨by rw [e.out]; rfl, hb.trans (hB1.mono hb.size)⟩))
          | true =>
            have e : Hid (checkV L = chkF (prevV L (k + 1)) (L.drop (k + 1))) := by unfold Hid; rw [hs.out, hp0, hd, Option.map_some, hb2, if_neg (fun c => by cases c), hpn]
            simp only [hb2] at HA
            clear hd hs hr hpn hy hz hp0 hb2 hah hjk
            have hg2 : decide (0 < k) = true := decide_eq_true h0
            go_wp2_with fail
            go_region_held3 (fun w' => w'.cell? ⟨g, off + k * 3, none⟩ = some (.int .i64 y.dev) ∧ w'.cell? ⟨g, off + k * 3 + 1, none⟩ = some (.int .i64 y.inc) ∧ w'.cell? ⟨g, off + k * 3 + 2, none⟩ = some (.int .i64 y.seq))
              (first | exact hS0 _ hB1)
              (first
                | (go_at_call 86; (with_reducible refine (HR _).mono ?_); rintro e w3 ⟨rfl, hx⟩; have hB1 := hB1.trans (hx.mono hB1.size); clear hx))
            all_goals (
              obtain ⟨f0, f1, f2, f3, f4, f5⟩ := hS1 _ hB1
              go_wp2_with fail
              have hB1 := hB1.drew
              go_region_held3 (fun w' => w'.cell? ⟨g, off + k * 3, none⟩ = some (.int .i64 y.dev) ∧ w'.cell? ⟨g, off + k * 3 + 1, none⟩ = some (.int .i64 y.inc) ∧ w'.cell? ⟨g, off + k * 3 + 2, none⟩ = some (.int .i64 y.seq) ∧ w'.cell? ⟨g, off + j * 3, none⟩ = some (.int .i64 z.dev) ∧ w'.cell? ⟨g, off + j * 3 + 1, none⟩ = some (.int .i64 z.inc) ∧ w'.cell? ⟨g, off + j * 3 + 2, none⟩ = some (.int .i64 z.seq))
                (first | exact hS1 _ hB1)
                (first
                  | (go_at_call 102; (with_reducible refine (HA _).mono ?_); rintro e w4 ⟨rfl, hx⟩; have hB1 := hB1.trans (hx.mono hB1.size); clear hx))
              all_goals (
                go_wp2
                go_roundw
                case rel => exact ⟨k + 1, by omega, by go_num, e, hb.trans (hB1.mono hb.size)⟩
                case measure => simp [intOf]; omega))
    · obtain rfl : k = n := by omega
      have e : Hid (checkV L = 0) := by unfold Hid; rw [hs.out, List.drop_of_length_le (by rw [Hn.out]; exact Nat.le_refl _)]; rfl
      go_wp2
      go_ret
      exact ⟨by rw [e.out]; rfl, hb⟩
end Go.Proofs.YtaodjnkjjmhecaaGreatDoor
namespace Go.Proofs.YtaodjnkjjmhecaaGreatDoor
open Go.RowKit Go.Lib
set_option linter.unusedVariables false
set_option linter.unusedSimpArgs false
set_option maxRecDepth 100000 in
theorem dOfNo (p : Nat) (a : Option Addr) (n c : Nat) (L : List DotN) (most : Int) (w : World) (hL : RowOf encD 3 w a n c L) (hF : ∀ x ∈ L, FitD x) (hz : ¬ checkV L = 0) :
    Calls Tryz.prog 53 #[.pointer (some ⟨p, 0, none⟩), .slice a n c, .int .i64 most] w fun e w' => e = .returned (.tuple #[.slice none 0 0, .int .i64 (checkV L)]) ∧ Below w.heap.size w w' := by
  have HV := vOfNo a n c L w hL hF hz
  have z1 : (checkV L != 0) = true := bne_iff_ne.2 hz
  have z2 : (checkV L == 0) = false := beq_eq_false_iff_ne.2 hz
  generalize checkV L = E at *
  clear hz hL hF
  go_enter Tryz.func53, Tryz.ntmps53
  go_wp2_with (go_at_call 96; (with_reducible refine HV.mono ?_); rintro e w1 ⟨rfl, hx1⟩)
  go_ret2
  exact ⟨rfl, hx1⟩
def ofR (L : List DotN) (most : Int) (P : List EvR) : List EvR := if most < 0 then P.filter (fun r => !hasV L r.e.dot) else (P.filter fun r => !hasV L r.e.dot).take most.toNat
theorem ofR_map (L : List DotN) (most : Int) (P : List EvR) : (ofR L most P).map (·.e) = ofM L most (P.map (·.e)) := by
  unfold ofR ofM
  split
  · exact of_map P
  · rw [List.map_take, of_map]
theorem ofR_yes {L : List DotN} {most : Int} {P : List EvR} {k : Nat} {r : EvR} (hk : P[k]? = some r) (h : hasV L r.e.dot = true) : ofR L most (P.take (k + 1)) = ofR L most (P.take k) := by
  unfold ofR
  rw [of_snoc_yes hk h]
theorem ofR_add {L : List DotN} {most : Int} {P : List EvR} {k : Nat} {r : EvR} (hk : P[k]? = some r) (h : hasV L r.e.dot = false) (hm : most < 0 ∨ ((ofR L most (P.take k)).length : Int) < most) : ofR L most (P.take (k + 1)) = ofR L most (P.take k) ++ [r] := by
  unfold ofR at hm ⊢
  rw [of_snoc_no hk h]
  by_cases c : most < 0
  · rw [if_pos c, if_pos c]
  · rw [if_neg c] at hm
    rw [if_neg c, if_neg c]
    have h1 := hm.resolve_left c
    rw [List.length_take] at h1
    rw [List.take_of_length_le (l := (P.take k).filter fun r => !hasV L r.e.dot) (by omega), List.take_of_length_le (by rw [List.length_append]; simp; omega)]
theorem ofR_full {L : List DotN} {most : Int} {P : List EvR} {k : Nat} {r : EvR} (hk : P[k]? = some r) (hm : ¬ most < 0) (hm2 : ¬ ((ofR L most (P.take k)).length : Int) < most) : ofR L most (P.take (k + 1)) = ofR L most (P.take k) := by
  cases h : hasV L r.e.dot with
  | true => exact ofR_yes hk h
  | false =>
    unfold ofR at hm2 ⊢
    rw [if_neg hm] at hm2
    rw [if_neg hm, if_neg hm, of_snoc_no hk h]
    rw [List.length_take] at hm2
    exact List.take_append_of_le_length (by omega)
theorem ofR_in {L : List DotN} {most : Int} {P : List EvR} {r : EvR} (h : r ∈ ofR L most P) : r ∈ P := by
  unfold ofR at h
  split at h
  · exact (List.mem_filter.1 h).1
  · exact (List.mem_filter.1 (List.mem_of_mem_take h)).1
set_option maxHeartbeats 4000000 in
set_option maxRecDepth 100000 in
theorem refDOfC (ac : Option Addr) (nc cc : Nat) (ak : Option Addr) (nk ck : Nat) (ad : Option Addr) (nd cd : Nat) (m : MapR) (a : Option Addr) (n c : Nat) (L : List DotN) (most : Int) (w : World) (hM : RowM w ac nc cc ak nk ck ad nd cd m) (hL : RowOf encD 3 w a n c L) (hn : nk ≤ 100000) :
    Calls Tryz.prog 57 #[.agg #[.slice ac nc cc, .slice ak nk ck, .slice ad nd cd], .slice a n c, .int .i64 most] w (GivesR (ofR L most m.kept) w) := by
  have hcm := hM.kept.capm
  have hcl := hM.kept.cle
  unfold maxLen at hcm
  obtain ⟨i0, hi, hz0, hz1, hz2⟩ := info_parts infoEvent
  have hlq := hM.kept.leq
  have o1 := ObjAt.new w #[.slice ac nc cc, .slice ak nk ck, .slice ad nd cd] 31
  have b1 := below_alloc w (.cells #[.slice ac nc cc, .slice ak nk ck, .slice ad nd cd] 31)
  have hlt1 := o1.lt
  generalize hw1 : w.alloc (.cells #[.slice ac nc cc, .slice ak nk ck, .slice ad nd cd] 31) = w1 at *
  have z2 := (OwnZ.lit encE 19 43 w1).base b1.size
  have b2 := below_alloc w1 (.cells #[] 43)
  have o2 := o1.below b2 hlt1
  have hK : ∀ v, Below (w.heap.size + 1) w1 v → v.cell? ⟨w.heap.size, 1, none⟩ = some (.slice ak nk ck) := fun v hv => (o1.below hv (Nat.lt_succ_self _)).cell 1 rfl
  have hB2 : Below (w.heap.size + 1) w1 (w1.alloc (.cells #[] 43)) := b2.mono hlt1
  unfold GivesR
  go_enter Tryz.func57, Tryz.ntmps57
  go_wp2
  go_loopw [7, 8] (fun s i wr => ∃ (k K c2 : Nat) (q : Option Addr), k ≤ nk ∧ K ≤ k ∧ i = .int .i64 (k : Int) ∧ s = .slice q K c2 ∧ OwnZ encE 19 (w.heap.size + 1) 43 q K c2 (ofR L most (m.kept.take k)) wr ∧ Below (w.heap.size + 1) w1 wr) (fun _ i _ => nk - (intOf i).toNat)
  case atStart => exact ⟨0, 0, 0, _, Nat.zero_le _, Nat.le_refl _, rfl, rfl, (by have := (OwnZ.lit encE 19 43 w1).base hlt1; unfold ofR; simpa using this), hB2⟩
  case round =>
    clear z2 b2 o2 hB2
    obtain ⟨k, K, c2, q, hk, hKk, rfl, rfl, hz, hB⟩ := hrel
    have e1 := hK _ hB
    have hb : Below w.heap.size w wr := b1.trans (hB.mono (Nat.le_succ _))
    have hws : w.heap.size + 1 ≤ wr.heap.size := Nat.le_trans hlt1 hB.size
    have hKl : (ofR L most (m.kept.take k)).length = K := hz.2.1
    by_cases hlt : k < nk
    · have hlt' : (k : Int) < (nk : Int) := by omega
      have i1 : (0 : Int) ≤ (k : Int) := by omega
      obtain ⟨r, g1, f1, A, hk1, rfl, hA, zA, lA, cA, kA⟩ := evr_at hM.kept k hlt
      have hcells : ∀ v, Below w.heap.size w v → ∀ (j : Nat) (u : Value), (encE r)[j]? = some u → v.cell? ⟨g1, f1 + k * 19 + j, none⟩ = some u := fun v hv j u hu => kA v hv j u (by rw [← hA]; simpa using hu)
      have d0 : wr.cell? ⟨g1, f1 + k * 19, none⟩ = some (.int .i64 r.e.dot.dev) := hcells _ hb 0 _ rfl
      have d1 := hcells _ hb 1 _ rfl; have d2 := hcells _ hb 2 _ rfl
      have hfold : Array.foldl (fun cs x => cs.setIfInBounds x.snd x.fst) (#[.int .i64 0, .int .i64 0, .int .i64 0, .int .i64 0, .int .i64 0, .int .i64 0, .int .i64 0, .string ⟨#[]⟩, .string ⟨#[]⟩, .string ⟨#[]⟩, .string ⟨#[]⟩, .bool false, .bool false, .bool false, .bool false, .int .i64 0, .int .i64 0, .int .i64 0, .slice none 0 0] : Array Value) A.zipIdx 0 19 = A := foldSet A _ 19 zA rfl
      have HH := refHasVC a n c L r.e.dot wr (hL.below hb)
      cases hh : hasV L r.e.dot with
      | true =>
        have HST := Lib.hid (ofR_yes (most := most) hk1 hh)
        rw [hh] at HH
        clear hh hk1 hfold hA lA zA cA kA hcells
        go_wp2_with (go_at_call 37; (with_reducible refine HH.mono ?_); rintro ex wx ⟨rfl, hx⟩)
        go_roundw
        case rel => exact ⟨k + 1, K, c2, q, by omega, by omega, by go_num, rfl, by rw [HST.out]; exact hz.below hx (Nat.le_refl _), hB.trans (hx.mono hws)⟩
        case measure => simp [intOf]; omega
      | false =>
        rw [hh] at HH
        by_cases hm : most < 0 ∨ (K : Int) < most
        · have HST := Lib.hid (ofR_add (most := most) hk1 hh (by rw [hKl]; exact hm))
          clear hh hk1 hA
          have fin : Hid (∀ wx, Below wr.heap.size wr wx → wx.cell? ⟨w.heap.size, 1, none⟩ = some (.slice (some ⟨g1, f1, none⟩) nk ck) ∧ OwnZ encE 19 (w.heap.size + 1) 43 q K c2 (ofR L most (m.kept.take k)) wx ∧ w.heap.size + 1 ≤ wx.heap.size ∧ Below (w.heap.size + 1) w1 wx ∧ Below w.heap.size w wx) := fun wx hx => ⟨hK _ (hB.trans (hx.mono hws)), hz.below hx (Nat.le_refl _), Nat.le_trans hws hx.size, hB.trans (hx.mono hws), hb.trans (hx.mono hb.size)⟩
          by_cases hm1 : most < 0
          · go_wp2_with (first
              | (go_at_call 37; (with_reducible refine HH.mono ?_); rintro ex wx ⟨rfl, hx⟩; obtain ⟨e3, hz2', hbs, hB3, hb3⟩ := fin.out wx hx; have cA2 := kA _ hb3)
              | (refine wpList_loadRow rfl 43 _ rfl g1 (f1 + k * 19) 19 A rfl cA2 Tryz.isAgg43 Tryz.sizeOf43 zA ?_)
              | (at_builtin; refine wpList_append_row1 encE_len (by decide) encE_one rfl (.tmp 36) (.tmp 42) 28 rfl 43 i0 (.agg #[.int .i64 0, .int .i64 0, .int .i64 0, .int .i64 0, .int .i64 0, .int .i64 0, .int .i64 0, .string ⟨#[]⟩, .string ⟨#[]⟩, .string ⟨#[]⟩, .string ⟨#[]⟩, .bool false, .bool false, .bool false, .bool false, .int .i64 0, .int .i64 0, .int .i64 0, .slice none 0 0]) 176 Tryz.underlying28 hi hz0 hz1 hz2 rfl hz2' rfl r lA rfl (K + 1) rfl (by unfold maxLen; omega) (by omega) hbs ?_; intro q5 c5 w5 hz5 hx5 hg5 hn5))
            go_roundw
            case rel => exact ⟨k + 1, K + 1, c5, q5, by omega, by omega, by go_num, rfl, by rw [HST.out]; exact hz5, hB3.trans hx5⟩
            case measure => simp [intOf]; omega
          · have hm2 : (K : Int) < most := hm.resolve_left hm1
            go_wp2_with (first
              | (go_at_call 37; (with_reducible refine HH.mono ?_); rintro ex wx ⟨rfl, hx⟩; obtain ⟨e3, hz2', hbs, hB3, hb3⟩ := fin.out wx hx; have cA2 := kA _ hb3)
              | (refine wpList_loadRow rfl 43 _ rfl g1 (f1 + k * 19) 19 A rfl cA2 Tryz.isAgg43 Tryz.sizeOf43 zA ?_)
              | (at_builtin; refine wpList_append_row1 encE_len (by decide) encE_one rfl (.tmp 36) (.tmp 42) 28 rfl 43 i0 (.agg #[.int .i64 0, .int .i64 0, .int .i64 0, .int .i64 0, .int .i64 0, .int .i64 0, .int .i64 0, .string ⟨#[]⟩, .string ⟨#[]⟩, .string ⟨#[]⟩, .string ⟨#[]⟩, .bool false, .bool false, .bool false, .bool false, .int .i64 0, .int .i64 0, .int .i64 0, .slice none 0 0]) 176 Tryz.underlying28 hi hz0 hz1 hz2 rfl hz2' rfl r lA rfl (K + 1) rfl (by unfold maxLen; omega) (by omega) hbs ?_; intro q5 c5 w5 hz5 hx5 hg5 hn5))
            go_roundw
            case rel => exact ⟨k + 1, K + 1, c5, q5, by omega, by omega, by go_num, rfl, by rw [HST.out]; exact hz5, hB3.trans hx5⟩
            case measure => simp [intOf]; omega
        · have hm1 : ¬ most < 0 := fun c => hm (.inl c)
          have hm2 : ¬ (K : Int) < most := fun c => hm (.inr c)
          have HST := Lib.hid (ofR_full (L := L) (most := most) hk1 hm1 (by rw [hKl]; exact hm2))
          clear hh hk1 hfold hA lA zA cA kA hcells hm
          go_wp2_with (go_at_call 37; (with_reducible refine HH.mono ?_); rintro ex wx ⟨rfl, hx⟩)
          go_roundw
          case rel => exact ⟨k + 1, K, c2, q, by omega, by omega, by go_num, rfl, by rw [HST.out]; exact hz.below hx (Nat.le_refl _), hB.trans (hx.mono hws)⟩
          case measure => simp [intOf]; omega
    · obtain rfl : nk = k := by omega
      rw [List.take_of_length_le (by omega)] at hz
      go_wp2
      go_ret
      exact ⟨q, K, c2, rfl, hz.base (Nat.le_succ _), hb⟩
theorem ArgM.okctx {w : World} {v : Value} {m : MapN} (h : ArgM w v m) : ∀ x ∈ m.ctx, rightD x = true := by
  rcases h with ⟨-, rfl⟩ | ⟨p, B, rs, -, hR⟩
  · exact fun x hx => absurd hx List.not_mem_nil
  · exact hR.ok.ok.ctx.right
theorem folded_few {P : List EvR} {n : Nat} (hlq : P.length = n) : (foldR P).kept.length ≤ n := by
  have h1 := run_kept_le (P.map (·.e)) MapN.none
  rw [show runM MapN.none (P.map (·.e)) = foldM (P.map (·.e)) from rfl, ← fold_map, show (foldR P).plain.kept = (foldR P).kept.map (·.e) from rfl, List.length_map, List.length_map, hlq, show MapN.none.kept.length = 0 from rfl] at h1
  omega
set_option maxHeartbeats 8000000 in
set_option maxRecDepth 100000 in
theorem deltaOfW (a : Option Addr) (n c : Nat) (P : List EvR) (b : Option Addr) (n2 c2 : Nat) (L : List DotN) (most : Int) (w : World) (hP : RowOf encE 19 w a n c P) (hO : OversAt w P) (hT : ∀ r ∈ P, r.e.item.name.length ≤ maxLen ∧ r.e.item.dom.length ≤ maxLen ∧ r.e.item.path.length ≤ maxLen ∧ r.e.item.val.length ≤ maxLen) (hL : RowOf encD 3 w b n2 c2 L) (hF : ∀ x ∈ L, FitD x) (hTb : OTb w) :
    Calls Tryz.prog 10 #[.slice a n c, .slice b n2 c2, .int .i64 most] w fun en w' => en = .returned (.bool true) ∧ Below w.heap.size w w' := by
  have hlq := hP.leq
  have HLA := refLightAllC a n c 30 (P.map (·.e)) w ⟨P, rfl, hP, hO⟩ (fun e he => by obtain ⟨r, hr, rfl⟩ := List.mem_map.1 he; exact hT r hr)
  have HAW := fun v (hv : Below w.heap.size w v) => awake22C v (hTb.below hv)
  rw [List.length_map, hlq] at HLA
  cases hla : (decide ((n : Int) ≤ 30) && (P.map (·.e)).all lightE) with
  | false =>
    rw [hla] at HLA
    clear hla
    go_enter Tryz.func10, Tryz.ntmps10
    go_wp2_with (first
      | (go_at_call 28; (with_reducible refine HLA.mono ?_); rintro e w1 ⟨rfl, hx1⟩)
      | (go_at_call 51; (with_reducible refine (HAW _ hx1).mono ?_); rintro e w2 ⟨rfl, hx2⟩))
    go_ret
    exact ⟨rfl, belowOn hx1 hx2⟩
  | true =>
    rw [hla] at HLA
    by_cases h1 : (100 : Int) < (n2 : Int)
    · have h1d : decide ((100 : Int) < (n2 : Int)) = true := decide_eq_true h1
      clear hla
      go_enter Tryz.func10, Tryz.ntmps10
      go_wp2_with (first
        | (go_at_call 28; (with_reducible refine HLA.mono ?_); rintro e w1 ⟨rfl, hx1⟩)
        | (go_at_call 51; (with_reducible refine (HAW _ hx1).mono ?_); rintro e w2 ⟨rfl, hx2⟩))
      go_ret
      exact ⟨rfl, belowOn hx1 hx2⟩
    · have h1d : decide ((100 : Int) < (n2 : Int)) = false := decide_eq_false h1
      rw [Bool.and_eq_true, decide_eq_true_eq] at hla
      obtain ⟨hn, hal⟩ := hla
      have hli : ∀ r ∈ P, lightE r.e = true := fun r hr => List.all_eq_true.1 hal _ (List.mem_map.2 ⟨r, hr, rfl⟩)
      have HMA := fun v (hv : Below w.heap.size w v) => madeC a n c P v (hP.below hv) (hO.below hv) hli (by omega) (hTb.below hv)
      have HCK := fun v (hv : Below w.heap.size w v) => refCheckVC b n2 c2 L v (hL.below hv)
      have hkf := folded_few hlq
      have hovw : ∀ v, Below w.heap.size w v → OversAt v (foldR P).kept := fun v hv r hr => (hO.below hv) r (fold_in r hr)
      unfold MadeIs at HMA
      clear hal hT hP hO
      generalize foldR P = W at *
      have HNE := fun v (hv : Below w.heap.size w v) x (h : ArgM v x W.plain) => dNeedsC h b n2 c2 L (hL.below hv) hF
      have HBE := fun v (hv : Below w.heap.size w v) p (h : ArgM v (.pointer (some ⟨p, 0, none⟩)) W.plain) => dBehindC p rfl h b n2 c2 L (hL.below hv) hF
      by_cases hz : checkV L = 0
      · have HOF := fun v (hv : Below w.heap.size w v) p (h : ArgM v (.pointer (some ⟨p, 0, none⟩)) W.plain) => dOfYes p rfl h b n2 c2 L most (hL.below hv) hF hz h.keptFit
        rw [hz] at HCK
        unfold OfIs at HOF
        have hok := (checkV_ok hz).1
        have hne : ∀ v x, ArgM v x W.plain → needsM W.plain L = !coversV L W.ctx := fun v x h => by
          unfold needsM
          rw [decide_eq_true hz, Bool.true_and]
          exact any_covers h.okctx
        have hbe : behindM W.plain L = !coversV W.ctx L := by
          unfold behindM
          rw [decide_eq_true hz, Bool.true_and]
          exact any_covers hok.right
        go_enter Tryz.func10, Tryz.ntmps10
        go_wp2_with (first
          | (go_at_call 28; (with_reducible refine HLA.mono ?_); rintro e w1 ⟨rfl, hx1⟩)
          | (go_at_call 52; (with_reducible refine (HMA _ hx1).mono ?_); rintro e w2 ⟨p, F, R, ac, nc, cc, ak, nk, ck, ad, nd, cd, rfl, hm2, hF2, hW2, hx2⟩; have b3 := below_alloc w2 (.cells #[.slice ac nc cc, .slice ak nk ck, .slice ad nd cd] 31); have o3 := ObjAt.new w2 #[.slice ac nc cc, .slice ak nk ck, .slice ad nd cd] 31; have hm3 := hm2.below b3; have hW3 := hW2.below b3; have hb2 := belowOn hx1 hx2; have hb3 := belowOn hb2 b3)
          | (go_at_call 53; (with_reducible refine (HOF _ hb3 _ hm3.arg).mono ?_); rintro e w4 ⟨q4, k4, c4, P4, rfl, hP4, hz4, hov4, -, hx4⟩; have hb4 := belowOn hb3 hx4; have o4 := o3.below hx4 o3.lt; have hm4 := hm3.below hx4; have hW4 := hW3.below hx4; have hr4 := hz4.row encE_len)
          | (go_at_call 54; (with_reducible refine (HCK _ hb4).mono ?_); rintro e w5 ⟨rfl, hx5⟩; have hb5 := belowOn hb4 hx5; have o5 := o4.below hx5 o4.lt; have hm5 := hm4.below hx5; have hW5 := hW4.below hx5; have hr5 := hr4.below hx5; have hov5 : OversAt w5 P4 := hov4.below hx5))
        have hne2 := hne _ _ hm5.arg
        rw [hne2] at HNE
        rw [hbe] at HBE
        have hnk : nk ≤ 100000 := by have := hW2.kept.leq; omega
        have l5 := o5.lt
        have hX := fun v (hv : Below w5.heap.size w5 v) => belowOn hb5 hv
        have hS : ∀ w', Below w5.heap.size w5 w' → w'.cell? ⟨w2.heap.size, 0, none⟩ = some (.slice ac nc cc) ∧ w'.cell? ⟨w2.heap.size, 1, none⟩ = some (.slice ak nk ck) ∧ w'.cell? ⟨w2.heap.size, 2, none⟩ = some (.slice ad nd cd) := fun v hv => ⟨(o5.below hv l5).cell 0 rfl, (o5.below hv l5).cell 1 rfl, (o5.below hv l5).cell 2 rfl⟩
        have HRO := fun v (hv : Below w5.heap.size w5 v) => refDOfC ac nc cc ak nk ck ad nd cd W b n2 c2 L most v (hW5.below hv) (hL.below (hX v hv)) hnk
        unfold GivesR at HRO
        have hRE : ∀ v, Below w5.heap.size w5 v → RowE v q4 k4 c4 (ofM L most W.plain.kept) := fun v hv => ⟨P4, hP4, hr5.below hv, hov5.below hv⟩
        have hRF : ∀ v q k c, Below w5.heap.size w5 v → RowOf encE 19 v q k c (ofR L most W.kept) → RowE v q k c (ofM L most W.plain.kept) := fun v q k c hv hr => ⟨ofR L most W.kept, ofR_map L most W.kept, hr, fun r hr2 => hovw v (hX v hv) r (ofR_in hr2)⟩
        have HC1 := fun v (hv : Below w5.heap.size w5 v) => refCoversVC b ac n2 nc c2 cc L W.ctx v (hL.below (hX v hv)) (hW5.below hv).ctx
        have HC2 := fun v (hv : Below w5.heap.size w5 v) => refCoversVC ac b nc n2 cc c2 W.ctx L v (hW5.below hv).ctx (hL.below (hX v hv))
        have HN2 := fun v (hv : Below w5.heap.size w5 v) => HNE v (hX v hv) _ (hm5.below hv).arg
        have HB2 := fun v (hv : Below w5.heap.size w5 v) => HBE v (hX v hv) _ (hm5.below hv).arg
        have HA2 := fun v (hv : Below w5.heap.size w5 v) => HAW v (hX v hv)
        clear HNE HBE HAW hne hbe hne2 hP4 hr4 hov4 hr5 hov5 hz4 hb3 hb2 hb4 hx1 hx2 hx4 hx5 hm2 hm3 hm4 hW2 hW3 hW4 o3 o4 b3 HOF HCK HMA HLA hz hok hkf hovw hF2
        generalize ofM L most W.plain.kept = LK at *
        generalize coversV L W.ctx = C1 at *
        generalize coversV W.ctx L = C2 at *
        have hB1 : Below w5.heap.size w5 w5.drew := (Below.refl _ _).drew
        cases C1 <;> cases C2 <;>
          (go_region_held3 (fun w' => w'.cell? ⟨w2.heap.size, 0, none⟩ = some (.slice ac nc cc) ∧ w'.cell? ⟨w2.heap.size, 1, none⟩ = some (.slice ak nk ck) ∧ w'.cell? ⟨w2.heap.size, 2, none⟩ = some (.slice ad nd cd))
            (first | exact hS _ hB1)
            (first
            | (go_at_call 57; (with_reducible refine (HRO _ hB1).mono ?_); rintro e v ⟨q6, k6, c6, rfl, hz6, hx⟩; have hB1 := hB1.trans (hx.mono hB1.size); have hr6 := hRF _ _ _ _ hB1 (hz6.row encE_len); clear hx hz6)
            | (go_at_call 32; (with_reducible refine (sameAX _ _ _ _ _ _ _ _ (hRE _ hB1) hr6).mono ?_); rintro e v ⟨rfl, hx⟩; have hB1 := hB1.trans (hx.mono hB1.size); clear hx)
            | (go_at_call 55; (with_reducible refine (HN2 _ hB1).mono ?_); rintro e v ⟨rfl, hx⟩; have hB1 := hB1.trans (hx.mono hB1.size); clear hx)
            | (go_at_call 58; (with_reducible refine (HC1 _ hB1).mono ?_); rintro e v ⟨rfl, hx⟩; have hB1 := hB1.trans (hx.mono hB1.size); clear hx)
            | (go_at_call 58; (with_reducible refine (HC2 _ hB1).mono ?_); rintro e v ⟨rfl, hx⟩; have hB1 := hB1.trans (hx.mono hB1.size); clear hx)
            | (go_at_call 56; (with_reducible refine (HB2 _ hB1).mono ?_); rintro e v ⟨rfl, hx⟩; have hB1 := hB1.trans (hx.mono hB1.size); clear hx)
            | (go_at_call 51; (with_reducible refine (HA2 _ hB1).mono ?_); rintro e v ⟨rfl, hx⟩; have hB1 := hB1.trans (hx.mono hB1.size); clear hx))
           all_goals (
            go_wp2
            go_ret
            exact ⟨rfl, belowOn hb5 hB1⟩))
      · have HOF := fun v (hv : Below w.heap.size w v) p => dOfNo p b n2 c2 L most v (hL.below hv) hF hz
        have hne : needsM W.plain L = false := by unfold needsM; rw [decide_eq_false hz, Bool.false_and]
        have hbe : behindM W.plain L = false := by unfold behindM; rw [decide_eq_false hz, Bool.false_and]
        rw [hne] at HNE
        rw [hbe] at HBE
        have z1 : (checkV L != 0) = true := bne_iff_ne.2 hz
        have z2 : (checkV L == 0) = false := beq_eq_false_iff_ne.2 hz
        generalize checkV L = E at *
        clear hne hbe hz hkf hovw hL
        go_enter Tryz.func10, Tryz.ntmps10
        go_wp2_with (first
          | (go_at_call 28; (with_reducible refine HLA.mono ?_); rintro e w1 ⟨rfl, hx1⟩)
          | (go_at_call 52; (with_reducible refine (HMA _ hx1).mono ?_); rintro e w2 ⟨p, F, R, ac, nc, cc, ak, nk, ck, ad, nd, cd, rfl, hm2, hF2, hW2, hx2⟩; have b3 := below_alloc w2 (.cells #[.slice ac nc cc, .slice ak nk ck, .slice ad nd cd] 31); have o3 := ObjAt.new w2 #[.slice ac nc cc, .slice ak nk ck, .slice ad nd cd] 31; have hm3 := hm2.below b3; have hW3 := hW2.below b3; have hb2 := belowOn hx1 hx2; have hb3 := belowOn hb2 b3)
          | (go_at_call 53; (with_reducible refine (HOF _ hb3 _).mono ?_); rintro e w4 ⟨rfl, hx4⟩; have hb4 := belowOn hb3 hx4; have hm4 := hm3.below hx4)
          | (go_at_call 54; (with_reducible refine (HCK _ hb4).mono ?_); rintro e w5 ⟨rfl, hx5⟩; have hb5 := belowOn hb4 hx5; have hm5 := hm4.below hx5)
          | (go_at_call 55; (with_reducible refine (HNE _ hb5 _ hm5.arg).mono ?_); rintro e w6 ⟨rfl, hx6⟩; have hb6 := belowOn hb5 hx6; have hm6 := hm5.below hx6)
          | (go_at_call 56; (with_reducible refine (HBE _ hb6 _ hm6.arg).mono ?_); rintro e w7 ⟨rfl, hx7⟩; have hb7 := belowOn hb6 hx7)
          | (go_at_call 51; (with_reducible refine (HAW _ hb7).mono ?_); rintro e w8 ⟨rfl, hx8⟩))
        go_ret
        exact ⟨rfl, belowOn hb7 hx8⟩
end Go.Proofs.YtaodjnkjjmhecaaGreatDoor
namespace Go.Proofs.YtaodjnkjjmhecaaGreatDoor
open Go.RowKit
set_option linter.unusedVariables false
theorem deltaOf_walk (a : Option Addr) (n c : Nat) (P : List EvR) (b : Option Addr) (n2 c2 : Nat) (L : List DotN) (most : Int) (w : World) (hpr : RowOf encE 19 w a n c P) (hpo : ∀ x ∈ P, OkR w x) (hL : RowOf encD 3 w b n2 c2 L) (hF : ∀ x ∈ L, FitD x) (hm : (Lit.int .i64 most).wf = true) (hTb : OTb w) :
    Calls Tryz.prog 10 #[.slice a n c, .slice b n2 c2, .int .i64 most] w fun en w' => en = .returned (.bool true) ∧ Below w.heap.size w w' :=
  deltaOfW a n c P b n2 c2 L most w hpr (fun r h => (hpo r h).1) (fun r h => (hpo r h).2.1) hL hF hTb
end Go.Proofs.YtaodjnkjjmhecaaGreatDoor
