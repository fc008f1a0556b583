/- Contracts of the reference of layer 8: names, what is canonical, matching. -/
import Derived.Test.YtlpehpfbjechpaaDoorHostRef3
namespace Go.Proofs.YtlpehpfbjechpaaDoor
open Go.RowKit
set_option linter.unusedVariables false

set_option maxRecDepth 100000 in
theorem refAddressC (l : List UInt8) (n : Nat) (w : World) (hl : l.length = n) (hm : n ≤ 1000000000000) :
    Calls Tryd.prog 11 #[.string (str l)] w fun e w' => e = .returned (.bool (addrB l)) ∧ Below w.heap.size w w' := by
  have hb := Below.refl w.heap.size w
  have HF := fun w => refFourC l n w hl hm
  have HB := fun w => refBracketC l n w hl (by unfold maxLen; omega)
  unfold addrB
  generalize quadB l = a at *
  generalize bracketB l = b at *
  clear hl
  cases a <;> cases b
  all_goals (
    go_enter Tryd.func11, Tryd.ntmps11
    go_wp2_with (first
      | (go_at_call 21; (with_reducible refine (HF _).mono ?_); rintro e w1 ⟨rfl, hx⟩; have hb := hb.trans (hx.mono hb.size); clear hx)
      | (go_at_call 22; (with_reducible refine (HB _).mono ?_); rintro e w1 ⟨rfl, rfl⟩))
    go_ret
    exact ⟨rfl, hb⟩)

set_option maxRecDepth 100000 in
theorem refNameC (l : List UInt8) (n : Nat) (w : World) (hl : l.length = n) (hm : n ≤ maxLen) :
    Calls Tryd.prog 17 #[.string (str l)] w fun e w' => e = .returned (.bool (nameB l)) ∧ Below w.heap.size w w' := by
  have hb := Below.refl w.heap.size w
  have hsz : (str l).size = n := by rw [str_size, hl]
  unfold nameB
  rw [hl]
  by_cases h : 256 < n
  · have h' : (256 : Int) < (n : Int) := by omega
    rw [decide_eq_false (show ¬ n ≤ 256 by omega)]
    clear hl
    go_enter Tryd.func17, Tryd.ntmps17
    go_wp2
    go_ret
    exact ⟨rfl, hb⟩
  · have h' : ¬ (256 : Int) < (n : Int) := by omega
    rw [decide_eq_true (show n ≤ 256 by omega), Bool.true_and]
    have HF := fun w => refFourC l n w hl (by omega)
    have HS := fun w => refSplitDotC l n w hl (by omega)
    unfold GivesStrs at HS
    generalize quadB l = q at *
    cases q with
    | true =>
      clear HS hl
      go_enter Tryd.func17, Tryd.ntmps17
      go_wp2_with (go_at_call 21; (with_reducible refine (HF _).mono ?_); rintro e w1 ⟨rfl, hx⟩; have hb := hb.trans (hx.mono hb.size); clear hx)
      go_ret
      exact ⟨rfl, hb⟩
    | false =>
      rw [Bool.not_false, Bool.true_and]
      have hle := fun k hk => part_le l 46 k hk
      have hNn := splitL_le l 46
      rw [hl] at hle hNn
      generalize splitL l 46 = P at *
      obtain ⟨N, hN⟩ : ∃ N, P.length = N := ⟨_, rfl⟩
      rw [hN] at HS hle hNn
      have HP := Lib.hid hN
      have HR : Hid (∀ k, k < N → labelB (P.getD k []) = false → P.all labelB = false) := fun k hk h => all_no' (by rw [HP.out]; exact hk) h
      have HY : Hid ((∀ j, j < N → labelB (P.getD j []) = true) → P.all labelB = true) := fun h => all_yes' (by rw [HP.out]; exact h)
      generalize P.all labelB = R at *
      clear hN hl
      go_enter Tryd.func17, Tryd.ntmps17
      go_wp2_with (first
        | (go_at_call 21; (with_reducible refine (HF _).mono ?_); rintro e w1 ⟨rfl, hx⟩; have hb := hb.trans (hx.mono hb.size); clear hx)
        | (go_at_call 18; (with_reducible refine (HS _).mono ?_); rintro e w2 ⟨a1, c1, rfl, ho1, hx1⟩; have hb := hb.trans (hx1.mono hb.size)))
      have r1 := ho1.reads
      clear HS ho1 HF hx1
      go_loopw [4] (fun i wr => ∃ k : Nat, k ≤ N ∧ i = .int .i64 (k : Int) ∧ Hid (∀ j, j < k → labelB (P.getD j []) = true) ∧ Below w2.heap.size w2 wr) (fun i _ => N - (intOf i).toNat)
      case atStart => exact ⟨0, Nat.zero_le _, rfl, fun j hj => absurd hj (by omega), Below.refl _ _⟩
      case round =>
        obtain ⟨k, hk, rfl, H, hbr⟩ := hrel
        have hb2 := hb.trans (hbr.mono hb.size)
        by_cases hlt : k < N
        · have hlt' : (k : Int) < (N : Int) := by omega
          obtain ⟨g, off, rfl, hc⟩ := str_at (r1.below' hbr) k (by rw [HP.out]; exact hlt)
          have hlk := hle k hlt
          have HN := Lib.hid (fun (hp : labelB (P.getD k []) = true) => (fun j hj => by
            rcases Nat.lt_succ_iff_lt_or_eq.1 hj with h | rfl
            · exact H.out j h
            · exact hp : ∀ j, j < k + 1 → labelB (P.getD j []) = true))
          have HF := Lib.hid (HR.out k hlt)
          have HC := fun w => refLabelC (P.getD k []) _ w rfl (by unfold maxLen; omega)
          clear hle
          generalize labelB (P.getD k []) = t at *
          generalize P.getD k [] = x at hc HC
          cases t
          · have HF2 := Lib.hid (HF.out rfl)
            clear HN HF
            go_wp2_with (go_at_call 26; (with_reducible refine (HC _).mono ?_); rintro e w3 ⟨rfl, rfl⟩)
            go_ret
            exact ⟨by rw [HF2.out]; rfl, hb2⟩
          · have HN2 := Lib.hid (HN.out rfl)
            clear HN HF
            go_wp2_with (go_at_call 26; (with_reducible refine (HC _).mono ?_); rintro e w3 ⟨rfl, rfl⟩)
            go_roundw
            case rel => exact ⟨k + 1, by omega, by go_num, HN2.out, hbr⟩
            case measure => simp [intOf]; omega
        · obtain rfl : k = N := by omega
          have HE := Lib.hid (HY.out H.out)
          clear hle
          go_wp2
          go_ret
          exact ⟨by rw [HE.out]; rfl, hb2⟩

set_option maxRecDepth 100000 in
theorem refCanonC (l : List UInt8) (n : Nat) (w : World) (hl : l.length = n) (hm : n ≤ maxLen) :
    Calls Tryd.prog 12 #[.string (str l)] w fun e w' => e = .returned (.bool (canonB l)) ∧ Below w.heap.size w w' := by
  have hb := Below.refl w.heap.size w
  have hsz : (str l).size = n := by rw [str_size, hl]
  unfold canonB
  rw [hl]
  by_cases h : n ≤ 256
  · have h' : (n : Int) ≤ 256 := by omega
    rw [decide_eq_true h, Bool.true_and]
    have HN := fun w => refNameC l n w hl hm
    have HA := fun w => refAddressC l n w hl (by omega)
    generalize nameB l = a at *
    generalize addrB l = b at *
    clear hl
    cases a <;> cases b
    all_goals (
      go_enter Tryd.func12, Tryd.ntmps12
      go_wp2_with (first
        | (go_at_call 17; (with_reducible refine (HN _).mono ?_); rintro e w1 ⟨rfl, hx⟩; have hb := hb.trans (hx.mono hb.size); clear hx)
        | (go_at_call 11; (with_reducible refine (HA _).mono ?_); rintro e w1 ⟨rfl, hx⟩; have hb := hb.trans (hx.mono hb.size); clear hx))
      go_ret
      exact ⟨rfl, hb⟩)
  · have h' : ¬ (n : Int) ≤ 256 := by omega
    rw [decide_eq_false h]
    clear hl
    go_enter Tryd.func12, Tryd.ntmps12
    go_wp2
    go_ret
    exact ⟨rfl, hb⟩

set_option maxRecDepth 100000 in
theorem refMatchC (a b : List UInt8) (n m : Nat) (w : World) (hl : a.length = n) (hm : n ≤ maxLen) (hl2 : b.length = m) (hm2 : m ≤ maxLen) :
    Calls Tryd.prog 14 #[.string (str a), .string (str b)] w fun e w' => e = .returned (.bool (matchB a b)) ∧ Below w.heap.size w w' := by
  have hb := Below.refl w.heap.size w
  have HA := fun w => refCanonC a n w hl hm
  have HB := fun w => refCanonC b m w hl2 hm2
  have HN := fun w => refNameC a n w hl hm
  have hk := str_toList
  have s1 : (str a).size = n := by rw [str_size, hl]
  have s2 : (str b).size = m := by rw [str_size, hl2]
  unfold matchB
  cases c1 : canonB a with
  | false =>
    rw [c1] at HA
    clear hl hl2 c1 HB HN
    go_enter Tryd.func14, Tryd.ntmps14
    go_wp2_with (go_at_call 12; (with_reducible refine (HA _).mono ?_); rintro e w1 ⟨rfl, hx⟩; have hb := hb.trans (hx.mono hb.size); clear hx)
    go_ret
    exact ⟨rfl, hb⟩
  | true =>
    rw [c1] at HA
    cases c2 : canonB b with
    | false =>
      rw [c2] at HB
      clear hl hl2 c1 c2 HN
      go_enter Tryd.func14, Tryd.ntmps14
      go_wp2_with (go_at_call 12; first
        | ((with_reducible refine (HA _).mono ?_); rintro e w1 ⟨rfl, hx⟩; have hb := hb.trans (hx.mono hb.size); clear hx)
        | ((with_reducible refine (HB _).mono ?_); rintro e w1 ⟨rfl, hx⟩; have hb := hb.trans (hx.mono hb.size); clear hx))
      go_ret
      exact ⟨rfl, hb⟩
    | true =>
      rw [c2] at HB
      have L1 := canon_len c1
      have L2 := canon_len c2
      rw [hl] at L1
      rw [hl2] at L2
      simp only [Bool.true_and]
      clear c1 c2
      cases hq : (a == b) with
      | true =>
        clear hl hl2 HN
        go_enter Tryd.func14, Tryd.ntmps14
        go_wp2_with (go_at_call 12; first
          | ((with_reducible refine (HA _).mono ?_); rintro e w1 ⟨rfl, hx⟩; have hb := hb.trans (hx.mono hb.size); clear hx)
          | ((with_reducible refine (HB _).mono ?_); rintro e w1 ⟨rfl, hx⟩; have hb := hb.trans (hx.mono hb.size); clear hx))
        go_ret
        exact ⟨rfl, hb⟩
      | false =>
        rw [Bool.false_or]
        unfold belowB
        rw [hl, hl2]
        have hxx := str_extract a
        generalize nameB a = nm at *
        cases nm with
        | false =>
          clear hl hl2 hxx
          go_enter Tryd.func14, Tryd.ntmps14
          go_wp2_with (first
            | (go_at_call 12; first
              | ((with_reducible refine (HA _).mono ?_); rintro e w1 ⟨rfl, hx⟩; have hb := hb.trans (hx.mono hb.size); clear hx)
              | ((with_reducible refine (HB _).mono ?_); rintro e w1 ⟨rfl, hx⟩; have hb := hb.trans (hx.mono hb.size); clear hx))
            | (go_at_call 17; (with_reducible refine (HN _).mono ?_); rintro e w1 ⟨rfl, hx⟩; have hb := hb.trans (hx.mono hb.size); clear hx))
          go_ret
          exact ⟨rfl, hb⟩
        | true =>
          rw [Bool.true_and]
          by_cases hlt : m < n
          · rw [decide_eq_true hlt, Bool.true_and]
            obtain ⟨d, hd⟩ : ∃ d, n - m - 1 = d := ⟨_, rfl⟩
            have hi := fun w => run_index_str (P := Tryd.prog) w 9 a .i64 d Tryd.underlying9 (by omega)
            have hx1 : (str a).extract (d + 1) n = str (a.drop (n - m)) := by rw [hxx, List.take_of_length_le (by simp; omega)]; congr 2; omega
            obtain ⟨b0, e0, f0⟩ : ∃ b0, (((a.getD d 0).toNat : Int) == 46) = b0 ∧ (a.getD d 0 == 46) = b0 := ⟨_, rfl, u8_is _ 46 (by omega)⟩
            rw [hd, f0]
            have v1 : (n : Int) - (m : Int) = ((d + 1 : Nat) : Int) := by omega
            have v2 : ((d + 1 : Nat) : Int) - 1 = (d : Int) := by omega
            have v3 : (0 : Int) < ((d + 1 : Nat) : Int) := by omega
            have v4 : ((d + 1 : Nat) : Int) ≤ (n : Int) := by omega
            have v5 : (d : Int) < (n : Int) := by omega
            have v6 : (0 : Int) ≤ (d : Int) := by omega
            obtain ⟨q, hq2⟩ : ∃ q, (a.drop (n - m) == b) = q := ⟨_, rfl⟩
            rw [hq2]
            generalize a.drop (n - m) = y at *
            generalize (a.getD d 0).toNat = c at *
            generalize d + 1 = D at *
            clear hl hl2 hxx f0 hd hlt
            cases b0 <;> cases q
            all_goals (
              go_enter Tryd.func14, Tryd.ntmps14
              go_wp2_with (first
                | (go_at_call 12; first
                  | ((with_reducible refine (HA _).mono ?_); rintro e w1 ⟨rfl, hx⟩; have hb := hb.trans (hx.mono hb.size); clear hx)
                  | ((with_reducible refine (HB _).mono ?_); rintro e w1 ⟨rfl, hx⟩; have hb := hb.trans (hx.mono hb.size); clear hx))
                | (go_at_call 17; (with_reducible refine (HN _).mono ?_); rintro e w1 ⟨rfl, hx⟩; have hb := hb.trans (hx.mono hb.size); clear hx))
              go_ret
              exact ⟨rfl, hb⟩)
          · rw [decide_eq_false hlt]
            have v1 : ¬ (0 : Int) < (n : Int) - (m : Int) := by omega
            clear hl hl2 hxx
            go_enter Tryd.func14, Tryd.ntmps14
            go_wp2_with (first
              | (go_at_call 12; first
                | ((with_reducible refine (HA _).mono ?_); rintro e w1 ⟨rfl, hx⟩; have hb := hb.trans (hx.mono hb.size); clear hx)
                | ((with_reducible refine (HB _).mono ?_); rintro e w1 ⟨rfl, hx⟩; have hb := hb.trans (hx.mono hb.size); clear hx))
              | (go_at_call 17; (with_reducible refine (HN _).mono ?_); rintro e w1 ⟨rfl, hx⟩; have hb := hb.trans (hx.mono hb.size); clear hx))
            go_ret
            exact ⟨rfl, hb⟩
end Go.Proofs.YtlpehpfbjechpaaDoor
