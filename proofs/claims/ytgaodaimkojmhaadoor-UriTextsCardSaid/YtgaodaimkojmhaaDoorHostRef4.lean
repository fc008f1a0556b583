/- Contracts of the reference of layer 8: names, what is canonical, matching. -/
import Derived.Test.YtgaodaimkojmhaaDoorHostRef3
namespace Go.Proofs.YtgaodaimkojmhaaDoor
open Go.RowKit
set_option linter.unusedVariables false

set_option maxRecDepth 100000 in
theorem refAddressC (l : List UInt8) (n : Nat) (w : World) (hl : l.length = n) (hm : n ≤ 1000000000000) :
    Calls Tryd.prog 41 #[.string (str l)] w fun e w' => e = .returned (.bool (addrB l)) ∧ Below w.heap.size w w' := by
  have hb := Below.refl w.heap.size w
  have HF := fun w => refFourC l n w hl hm
  have HB := fun w => refBracketC l n w hl (by unfold maxLen; omega)
  unfold addrB
  generalize quadB l = a at *
  generalize bracketB l = b at *
  clear hl
  cases a <;> cases b
  all_goals (
    go_enter Tryd.func41, Tryd.ntmps41
    go_wp2_with (first
      | (go_at_call 58; (with_reducible refine (HF _).mono ?_); rintro e w1 ⟨rfl, hx⟩; have hb := hb.trans (hx.mono hb.size); clear hx)
      | (go_at_call 61; (with_reducible refine (HB _).mono ?_); rintro e w1 ⟨rfl, rfl⟩))
    go_ret
    exact ⟨rfl, hb⟩)

set_option maxRecDepth 100000 in
theorem refNameC (l : List UInt8) (n : Nat) (w : World) (hl : l.length = n) (hm : n ≤ maxLen) :
    Calls Tryd.prog 40 #[.string (str l)] w fun e w' => e = .returned (.bool (nameB l)) ∧ Below w.heap.size w w' := by
  have hb := Below.refl w.heap.size w
  have hsz : (str l).size = n := by rw [str_size, hl]
  unfold nameB
  rw [hl]
  by_cases h : 256 < n
  · have h' : (256 : Int) < (n : Int) := by omega
    rw [decide_eq_false (show ¬ n ≤ 256 by omega)]
    clear hl
    go_enter Tryd.func40, Tryd.ntmps40
    go_wp2
    go_ret
    exact ⟨rfl, hb⟩
  · have h' : ¬ (256 : Int) < (n : Int) := by omega
    rw [decide_eq_true (show n ≤ 256 by omega), Bool.true_and]
    have HF := fun w => refFourC l n w hl (by omega)
    have HS := fun w => refSplitDotC l n w hl (by omega)
    unfold GivesStrs at HS
    generalize quadB l = q at *
    cases q with
    | true =>
      clear HS hl
      go_enter Tryd.func40, Tryd.ntmps40
      go_wp2_with (go_at_call 58; (with_reducible refine (HF _).mono ?_); rintro e w1 ⟨rfl, hx⟩; have hb := hb.trans (hx.mono hb.size); clear hx)
      go_ret
      exact ⟨rfl, hb⟩
    | false =>
      rw [Bool.not_false, Bool.true_and]
      have hle := fun k hk => part_le l 46 k hk
      have hNn := splitL_le l 46
      rw [hl] at hle hNn
      generalize splitL l 46 = P at *
      obtain ⟨N, hN⟩ : ∃ N, P.length = N := ⟨_, rfl⟩
      rw [hN] at HS hle hNn
      have HP := Lib.hid hN
      have HR : Hid (∀ k, k < N → labelB (P.getD k []) = false → P.all labelB = false) := fun k hk h => all_no' (by rw [HP.out]; exact hk) h
      have HY : Hid ((∀ j, j < N → labelB (P.getD j []) = true) → P.all labelB = true) := fun h => all_yes' (by rw [HP.out]; exact h)
      generalize P.all labelB = R at *
      clear hN hl
      go_enter Tryd.func40, Tryd.ntmps40
      go_wp2_with (first
        | (go_at_call 58; (with_reducible refine (HF _).mono ?_); rintro e w1 ⟨rfl, hx⟩; have hb := hb.trans (hx.mono hb.size); clear hx)
        | (go_at_call 59; (with_reducible refine (HS _).mono ?_); rintro e w2 ⟨a1, c1, rfl, ho1, hx1⟩; have hb := hb.trans (hx1.mono hb.size)))
      have r1 := ho1.reads
      clear HS ho1 HF hx1
      go_loopw [4] (fun i wr => ∃ k : Nat, k ≤ N ∧ i = .int .i64 (k : Int) ∧ Hid (∀ j, j < k → labelB (P.getD j []) = true) ∧ Below w2.heap.size w2 wr) (fun i _ => N - (intOf i).toNat)
      case atStart => exact ⟨0, Nat.zero_le _, rfl, fun j hj => absurd hj (by omega), Below.refl _ _⟩
      case round =>
        obtain ⟨k, hk, rfl, H, hbr⟩ := hrel
        have hb2 := hb.trans (hbr.mono hb.size)
        by_cases hlt : k < N
        · have hlt' : (k : Int) < (N : Int) := by omega
          obtain ⟨g, off, rfl, hc⟩ := str_at (r1.below' hbr) k (by rw [HP.out]; exact hlt)
          have hlk := hle k hlt
          have HN := Lib.hid (fun (hp : labelB (P.getD k []) = true) => (fun j hj => by
            rcases Nat.lt_succ_iff_lt_or_eq.1 hj with h | rfl
            · exact H.out j h
            · exact hp : ∀ j, j < k + 1 → labelB (P.getD j []) = true))
          have HF := Lib.hid (HR.out k hlt)
          have HC := fun w => refLabelC (P.getD k []) _ w rfl (by unfold maxLen; omega)
          clear hle
          generalize labelB (P.getD k []) = t at *
          generalize P.getD k [] = x at hc HC
          cases t
          · have HF2 := Lib.hid (HF.out rfl)
            clear HN HF
            go_wp2_with (go_at_call 60; (with_reducible refine (HC _).mono ?_); rintro e w3 ⟨rfl, rfl⟩)
            go_ret
            exact ⟨by rw [HF2.out]; rfl, hb2⟩
          · have HN2 := Lib.hid (HN.out rfl)
            clear HN HF
            go_wp2_with (go_at_call 60; (with_reducible refine (HC _).mono ?_); rintro e w3 ⟨rfl, rfl⟩)
            go_roundw
            case rel => exact ⟨k + 1, by omega, by go_num, HN2.out, hbr⟩
            case measure => simp [intOf]; omega
        · obtain rfl : k = N := by omega
          have HE := Lib.hid (HY.out H.out)
          clear hle
          go_wp2
          go_ret
          exact ⟨by rw [HE.out]; rfl, hb2⟩

set_option maxRecDepth 100000 in
theorem refCanonC (l : List UInt8) (n : Nat) (w : World) (hl : l.length = n) (hm : n ≤ maxLen) :
    Calls Tryd.prog 26 #[.string (str l)] w fun e w' => e = .returned (.bool (canonB l)) ∧ Below w.heap.size w w' := by
  have hb := Below.refl w.heap.size w
  have hsz : (str l).size = n := by rw [str_size, hl]
  unfold canonB
  rw [hl]
  by_cases h : n ≤ 256
  · have h' : (n : Int) ≤ 256 := by omega
    rw [decide_eq_true h, Bool.true_and]
    have HN := fun w => refNameC l n w hl hm
    have HA := fun w => refAddressC l n w hl (by omega)
    generalize nameB l = a at *
    generalize addrB l = b at *
    clear hl
    cases a <;> cases b
    all_goals (
      go_enter Tryd.func26, Tryd.ntmps26
      go_wp2_with (first
        | (go_at_call 40; (with_reducible refine (HN _).mono ?_); rintro e w1 ⟨rfl, hx⟩; have hb := hb.trans (hx.mono hb.size); clear hx)
        | (go_at_call 41; (with_reducible refine (HA _).mono ?_); rintro e w1 ⟨rfl, hx⟩; have hb := hb.trans (hx.mono hb.size); clear hx))
      go_ret
      exact ⟨rfl, hb⟩)
  · have h' : ¬ (n : Int) ≤ 256 := by omega
    rw [decide_eq_false h]
    clear hl
    go_enter Tryd.func26, Tryd.ntmps26
    go_wp2
    go_ret
    exact ⟨rfl, hb⟩

end Go.Proofs.YtgaodaimkojmhaaDoor
